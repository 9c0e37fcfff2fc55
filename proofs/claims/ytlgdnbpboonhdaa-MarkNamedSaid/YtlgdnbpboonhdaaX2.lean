/- The office of the chapter's examples, and what the functions answer there. The examples of the chapter: Works returns true. -/
import Derived.Test.YtlgdnbpboonhdaaF7
import Derived.Test.YtlgdnbpboonhdaaM7
import Derived.Test.YtlgdnbpboonhdaaM14
namespace Go.Proofs.Ytlgdnbpboonhdaa
open Go.RowKit Go.Shelf Go.Maps
set_option linter.unusedVariables false
attribute [local go_sem] Oper.semAt_some
theorem results_cell24 {fn : Func} {p : Tmp} {x y z : Value} (h : fn.results = #[.cell p 24]) (tmps : Array Value) (w : World) (b : Nat)
    (hp : tmps.getD p undef = .pointer (some ⟨b, 0, none⟩)) (hc : w.heap[b]? = some (.cells #[x, y, z] 24 (0, 0))) :
    (results fn tmps).run Try.prog w = .ok (.agg #[x, y, z]) w := by
  have hp' : tmps[p]?.getD undef = .pointer (some ⟨b, 0, none⟩) := by simpa using hp
  have c0 : w.cell? ⟨b, 0, none⟩ = some x := by rw [cell_of_row _ _ _ _ _ _ hc]; rfl
  have c1 : w.cell? ⟨b, 1, none⟩ = some y := by rw [cell_of_row _ _ _ _ _ _ hc]; rfl
  have c2 : w.cell? ⟨b, 2, none⟩ = some z := by rw [cell_of_row _ _ _ _ _ _ hc]; rfl
  simp [results, h, hp', asAddr, loadVar, isAgg, run_underlying Try.underlying24, go_sem, c0, c1, c2]
theorem office55_3 (w : World) : Calls Try.prog 55 #[.int .i64 3] w fun e w' => ∃ a c, e = .returned (.agg #[.int .i64 5, .int .i64 1, .slice a 3 c]) ∧ Reads w' (.slice a 3 c) (ints [7, 25, 14]) ∧ Ext w w' := by
  go_enter Try.func55, Try.ntmps55
  go_wp2
  refine bodyPost_ret (v := .agg #[.int .i64 5, .int .i64 1, .slice (some ⟨w.heap.size + 1, 0, none⟩) 3 3]) ?_ rfl ⟨_, _, rfl, ?_, ((Ext.refl w).alloc _).alloc _⟩
  · exact results_cell24 Try.results55 _ _ w.heap.size rfl (block_ext ((Ext.refl _).alloc _) (heap_alloc_new w _))
  · exact Reads.new _ [7, 25, 14] 3 _ (by simp) (by simp) _ rfl _ _ rfl
theorem office55_2 (w : World) : Calls Try.prog 55 #[.int .i64 2] w fun e w' => ∃ a c, e = .returned (.agg #[.int .i64 5, .int .i64 1, .slice a 2 c]) ∧ Reads w' (.slice a 2 c) (ints [7, 25]) ∧ Ext w w' := by
  go_enter Try.func55, Try.ntmps55
  go_wp2
  refine bodyPost_ret (v := .agg #[.int .i64 5, .int .i64 1, .slice (some ⟨w.heap.size + 1, 0, none⟩) 2 3]) ?_ rfl ⟨_, _, rfl, ?_, ((Ext.refl w).alloc _).alloc _⟩
  · exact results_cell24 Try.results55 _ _ w.heap.size rfl (block_ext ((Ext.refl _).alloc _) (heap_alloc_new w _))
  · exact (Reads.new (w.alloc (.cells #[.int .i64 5, .int .i64 1, .slice (some ⟨w.heap.size + 1, 0, none⟩) 2 3] 24)) [7, 25, 14] 3 (w.heap.size + 1) (by simp) (by simp) _ rfl 3 3 rfl).take 2 (by omega)
theorem valid3 : Valid 5 1 [7, 25, 14] := by unfold Valid; decide
theorem valid2 : Valid 5 1 [7, 25] := by unfold Valid; decide
theorem validQ : Valid 5 1 [1, 2, 30, 12] := by unfold Valid; decide
theorem k_owners : ownersL 1 6 [7, 25, 14] = [0, 2] := by decide +kernel
theorem k_clash02 : clash2 [7, 25, 14] 1 0 2 = some 6 := by decide +kernel
theorem k_clash01 : clash2 [7, 25, 14] 1 0 1 = none := by decide +kernel
theorem k_apart3 : clash1 [7, 25, 14] 1 = some (0, 2) := by decide +kernel
theorem k_apart2 : clash1 [7, 25] 1 = none := by decide +kernel
theorem k_margin : marginL 5 [7, 25] (pairsL 2) = 1 := by decide +kernel
theorem k_told : toldV [7, 25, 14] 1 1 = 1 := by decide +kernel
theorem k_keep : keepO 5 [7, 25, 14] 2 = some 10 := by decide +kernel
theorem k_free : freeL 5 1 [7, 25] = [1, 2, 4, 8, 10, 12, 16, 18, 20, 30, 31] := by decide +kernel
theorem k_family : familyL [7, 25] 1 [1, 2, 30, 12] = [0, 2, 3] := by decide +kernel
theorem k_checkFam : checkFam [7, 25] 1 [1, 2, 30, 12] [0, 1] = 17 := by decide +kernel
end Go.Proofs.Ytlgdnbpboonhdaa
namespace Go.Proofs.Ytlgdnbpboonhdaa
open Go.RowKit Go.Shelf Go.Maps
set_option linter.unusedVariables false
set_option linter.unusedSimpArgs false
attribute [local go_sem] Oper.semAt_some
/-- The two offices lie in their boxes. -/
def Two (W : World) (B1 B2 : Nat) (a1 : Option Addr) (c1 : Nat) (a2 : Option Addr) (c2 : Nat) : Prop :=
  W.heap[B1]? = some (.cells #[.int .i64 5, .int .i64 1, .slice a1 3 c1] 24 (0, 0)) ∧ W.heap[B2]? = some (.cells #[.int .i64 5, .int .i64 1, .slice a2 2 c2] 24 (0, 0)) ∧ Reads W (.slice a1 3 c1) (ints [7, 25, 14]) ∧ Reads W (.slice a2 2 c2) (ints [7, 25])
theorem Two.ext {W W' : World} {B1 B2 : Nat} {a1 : Option Addr} {c1 : Nat} {a2 : Option Addr} {c2 : Nat} (h : Two W B1 B2 a1 c1 a2 c2) (e : Ext W W') : Two W' B1 B2 a1 c1 a2 c2 :=
  ⟨block_ext e h.1, block_ext e h.2.1, h.2.2.1.ext e, h.2.2.2.ext e⟩
theorem Two.cells {W : World} {B1 B2 : Nat} {a1 : Option Addr} {c1 : Nat} {a2 : Option Addr} {c2 : Nat} (h : Two W B1 B2 a1 c1 a2 c2) :
    (W.cell? ⟨B1, 0, none⟩ = some (.int .i64 5) ∧ W.cell? ⟨B1, 1, none⟩ = some (.int .i64 1) ∧ W.cell? ⟨B1, 2, none⟩ = some (.slice a1 3 c1)) ∧
    (W.cell? ⟨B2, 0, none⟩ = some (.int .i64 5) ∧ W.cell? ⟨B2, 1, none⟩ = some (.int .i64 1) ∧ W.cell? ⟨B2, 2, none⟩ = some (.slice a2 2 c2)) := by
  refine ⟨⟨?_, ?_, ?_⟩, ?_, ?_, ?_⟩
  · rw [cell_of_row _ _ _ _ _ _ h.1]; rfl
  · rw [cell_of_row _ _ _ _ _ _ h.1]; rfl
  · rw [cell_of_row _ _ _ _ _ _ h.1]; rfl
  · rw [cell_of_row _ _ _ _ _ _ h.2.1]; rfl
  · rw [cell_of_row _ _ _ _ _ _ h.2.1]; rfl
  · rw [cell_of_row _ _ _ _ _ _ h.2.1]; rfl
set_option maxRecDepth 100000 in
set_option maxHeartbeats 8000000 in
theorem works18 (w : World) : Calls Try.prog 18 #[] w fun e w' => e = .returned (.bool true) ∧ Ext w w' := by
  go_enter Try.func18, Try.ntmps18
  go_wp2_with fail
  refine (office55_3 _).mono ?_
  rintro e w1 ⟨a1, c1, rfl, hr1, hb1⟩
  have HR1 := Lib.hid hr1; have HB1 := Lib.hid hb1
  clear hr1 hb1
  go_wp2_with fail
  refine (office55_2 _).mono ?_
  rintro e w2 ⟨a2, c2, rfl, hr2, hb2⟩
  have hA := ((Ext.refl w2).alloc (.cells #[.int .i64 5, .int .i64 1, .slice a1 3 c1] 24)).alloc (.cells #[.int .i64 5, .int .i64 1, .slice a2 2 c2] 24)
  have hT : Two ((w2.alloc (.cells #[.int .i64 5, .int .i64 1, .slice a1 3 c1] 24)).alloc (.cells #[.int .i64 5, .int .i64 1, .slice a2 2 c2] 24)) w2.heap.size (w2.heap.size + 1) a1 c1 a2 c2 := by
    have h2 := heap_alloc_new (w2.alloc (.cells #[.int .i64 5, .int .i64 1, .slice a1 3 c1] 24)) (.cells #[.int .i64 5, .int .i64 1, .slice a2 2 c2] 24)
    rw [World.size_alloc] at h2
    exact ⟨block_ext ((Ext.refl _).alloc _) (heap_alloc_new w2 _), h2, (HR1.out.ext hb2).ext hA, hr2.ext hA⟩
  obtain ⟨B1, hB1⟩ : ∃ B1, w2.heap.size = B1 := ⟨_, rfl⟩
  have hE := (HB1.out.trans hb2).trans hA
  obtain ⟨W, hW⟩ : ∃ W, (w2.alloc (.cells #[.int .i64 5, .int .i64 1, .slice a1 3 c1] 24)).alloc (.cells #[.int .i64 5, .int .i64 1, .slice a2 2 c2] 24) = W := ⟨_, rfl⟩
  have HT := Lib.hid hT; have HE := Lib.hid hE
  have HW := Lib.hid hW; have HBB := Lib.hid hB1
  clear hr2 hb2 hA hT hE hW hB1 HR1 HB1
  have ⟨⟨o0, o1, o2⟩, p0, p1, p2⟩ := HT.out.cells
  go_wp2_with fail
  refine (owners19_ok 5 1 6 [7, 25, 14] _ _ valid3 HT.out.2.2.1 (by decide)).mono ?_
  rintro e w3 ⟨u1, rfl, hu1, hb⟩
  rw [k_owners] at hu1
  have HU1 := Lib.hid hu1; clear hu1
  replace HT := Lib.hid (HT.out.ext hb); replace HE := Lib.hid (HE.out.trans hb)
  clear hb o0 o1 o2 p0 p1 p2
  have ⟨⟨o0, o1, o2⟩, p0, p1, p2⟩ := HT.out.cells
  go_wp2_with fail
  refine (clash24_ok 5 1 0 2 [7, 25, 14] _ _ valid3 HT.out.2.2.1 (by decide) (by decide) (by decide)).mono ?_
  rintro e w3 ⟨rfl, hb⟩
  rw [k_clash02]
  simp only [clashV, apart3, keepV]
  replace HT := Lib.hid (HT.out.ext hb); replace HE := Lib.hid (HE.out.trans hb)
  replace HU1 := Lib.hid (HU1.out.ext hb)
  clear hb o0 o1 o2 p0 p1 p2
  have ⟨⟨o0, o1, o2⟩, p0, p1, p2⟩ := HT.out.cells
  go_wp2_with fail
  refine (clash24_ok 5 1 0 1 [7, 25, 14] _ _ valid3 HT.out.2.2.1 (by decide) (by decide) (by decide)).mono ?_
  rintro e w3 ⟨rfl, hb⟩
  rw [k_clash01]
  simp only [clashV, apart3, keepV]
  replace HT := Lib.hid (HT.out.ext hb); replace HE := Lib.hid (HE.out.trans hb)
  replace HU1 := Lib.hid (HU1.out.ext hb)
  clear hb o0 o1 o2 p0 p1 p2
  have ⟨⟨o0, o1, o2⟩, p0, p1, p2⟩ := HT.out.cells
  go_wp2_with fail
  refine (apart26_ok 5 1 [7, 25, 14] _ _ valid3 HT.out.2.2.1).mono ?_
  rintro e w3 ⟨rfl, hb⟩
  rw [k_apart3]
  simp only [clashV, apart3, keepV]
  replace HT := Lib.hid (HT.out.ext hb); replace HE := Lib.hid (HE.out.trans hb)
  replace HU1 := Lib.hid (HU1.out.ext hb)
  clear hb o0 o1 o2 p0 p1 p2
  have ⟨⟨o0, o1, o2⟩, p0, p1, p2⟩ := HT.out.cells
  go_wp2_with fail
  refine (apart26_ok 5 1 [7, 25] _ _ valid2 HT.out.2.2.2).mono ?_
  rintro e w3 ⟨rfl, hb⟩
  rw [k_apart2]
  simp only [clashV, apart3, keepV]
  replace HT := Lib.hid (HT.out.ext hb); replace HE := Lib.hid (HE.out.trans hb)
  replace HU1 := Lib.hid (HU1.out.ext hb)
  clear hb o0 o1 o2 p0 p1 p2
  have ⟨⟨o0, o1, o2⟩, p0, p1, p2⟩ := HT.out.cells
  go_wp2_with fail
  refine (margin28_ok 5 1 [7, 25] _ _ valid2 HT.out.2.2.2).mono ?_
  rintro e w3 ⟨rfl, hb⟩
  rw [show marginL 5 [7, 25] (pairsL [7, 25].length) = 1 from k_margin]
  replace HT := Lib.hid (HT.out.ext hb); replace HE := Lib.hid (HE.out.trans hb)
  replace HU1 := Lib.hid (HU1.out.ext hb)
  clear hb o0 o1 o2 p0 p1 p2
  have ⟨⟨o0, o1, o2⟩, p0, p1, p2⟩ := HT.out.cells
  go_wp2_with fail
  refine (told30_ok 5 1 1 [7, 25, 14] _ _ valid3 HT.out.2.2.1 (by decide)).mono ?_
  rintro e w3 ⟨rfl, hb⟩
  rw [k_told]
  replace HT := Lib.hid (HT.out.ext hb); replace HE := Lib.hid (HE.out.trans hb)
  replace HU1 := Lib.hid (HU1.out.ext hb)
  clear hb o0 o1 o2 p0 p1 p2
  have ⟨⟨o0, o1, o2⟩, p0, p1, p2⟩ := HT.out.cells
  go_wp2_with fail
  refine (keep32_ok 5 1 2 [7, 25, 14] _ _ valid3 HT.out.2.2.1 (by decide)).mono ?_
  rintro e w3 ⟨rfl, hb⟩
  rw [k_keep]
  simp only [clashV, apart3, keepV]
  replace HT := Lib.hid (HT.out.ext hb); replace HE := Lib.hid (HE.out.trans hb)
  replace HU1 := Lib.hid (HU1.out.ext hb)
  clear hb o0 o1 o2 p0 p1 p2
  have ⟨⟨o0, o1, o2⟩, p0, p1, p2⟩ := HT.out.cells
  go_wp2_with fail
  refine (free35_ok 5 1 [7, 25] _ _ valid2 HT.out.2.2.2).mono ?_
  rintro e w3 ⟨u2, rfl, hu2, hb⟩
  rw [k_free] at hu2
  have HU2 := Lib.hid hu2; clear hu2
  replace HT := Lib.hid (HT.out.ext hb); replace HE := Lib.hid (HE.out.trans hb)
  replace HU1 := Lib.hid (HU1.out.ext hb)
  clear hb o0 o1 o2 p0 p1 p2
  have ⟨⟨o0, o1, o2⟩, p0, p1, p2⟩ := HT.out.cells
  go_wp2_with fail
  have hA := (Ext.refl w3).alloc (.cells #[.int .i64 1, .int .i64 2, .int .i64 30, .int .i64 12] 3)
  replace HT := Lib.hid (HT.out.ext hA); replace HE := Lib.hid (HE.out.trans hA)
  replace HU1 := Lib.hid (HU1.out.ext hA)
  replace HU2 := Lib.hid (HU2.out.ext hA)
  clear hA
  refine (family37_ok 5 1 [7, 25] [1, 2, 30, 12] _ _ _ valid2 HT.out.2.2.2 (Reads.new _ [1, 2, 30, 12] 3 _ rfl (by simp) _ rfl 4 4 rfl) validQ).mono ?_
  rintro e w3 ⟨u3, rfl, ⟨hu3, -⟩, hb⟩
  rw [k_family] at hu3
  have HU3 := Lib.hid hu3; clear hu3
  replace HT := Lib.hid (HT.out.ext hb); replace HE := Lib.hid (HE.out.trans hb)
  replace HU1 := Lib.hid (HU1.out.ext hb)
  replace HU2 := Lib.hid (HU2.out.ext hb)
  clear hb o0 o1 o2 p0 p1 p2
  have ⟨⟨o0, o1, o2⟩, p0, p1, p2⟩ := HT.out.cells
  go_wp2_with fail
  have hq1 : Reads (w3.alloc (.cells #[.int .i64 1, .int .i64 2, .int .i64 30, .int .i64 12] 3)) (.slice (some ⟨w3.heap.size, 0, none⟩) 4 4) (ints [1, 2, 30, 12]) := Reads.new _ [1, 2, 30, 12] 3 _ rfl (by simp) _ rfl 4 4 rfl
  have hq2 : Reads ((w3.alloc (.cells #[.int .i64 1, .int .i64 2, .int .i64 30, .int .i64 12] 3)).alloc (.cells #[.int .i64 0, .int .i64 1] 3)) (.slice (some ⟨w3.heap.size + 1, 0, none⟩) 2 2) [0, 1] := Reads.new _ [0, 1] 3 _ (by simp) (by simp) _ rfl 2 2 rfl
  have hA := ((Ext.refl w3).alloc (.cells #[.int .i64 1, .int .i64 2, .int .i64 30, .int .i64 12] 3)).alloc (.cells #[.int .i64 0, .int .i64 1] 3)
  replace HT := Lib.hid (HT.out.ext hA); replace HE := Lib.hid (HE.out.trans hA)
  replace HU1 := Lib.hid (HU1.out.ext hA)
  replace HU2 := Lib.hid (HU2.out.ext hA)
  replace HU3 := Lib.hid (HU3.out.ext hA)
  have H39 := Lib.hid (checkFam39_ok 5 1 [7, 25] [1, 2, 30, 12] [0, 1] _ _ _ _ valid2 HT.out.2.2.2 (hq1.ext ((Ext.refl _).alloc _)) validQ hq2 ⟨_, _, _, rfl, Nat.le_refl _⟩)
  rw [k_checkFam] at H39
  clear hA hq1 hq2
  refine H39.out.mono ?_
  rintro e w3 ⟨rfl, hb⟩
  replace HT := Lib.hid (HT.out.ext hb); replace HE := Lib.hid (HE.out.trans hb)
  replace HU1 := Lib.hid (HU1.out.ext hb)
  replace HU2 := Lib.hid (HU2.out.ext hb)
  replace HU3 := Lib.hid (HU3.out.ext hb)
  clear hb o0 o1 o2 p0 p1 p2 H39
  go_wp2_with fail
  have hA := (Ext.refl w3).alloc (.cells #[.int .i64 0, .int .i64 2] 3)
  have hI := ints_any u1 _ (ints [0, 2]) (ints [0, 2]) _ (HU1.out.ext hA) (Reads.new w3 [0, 2] 3 _ rfl (by simp) _ rfl 2 2 rfl)
  rw [show (ints [0, 2] == ints [0, 2]) = true from by decide] at hI
  replace HE := Lib.hid (HE.out.trans hA)
  replace HU2 := Lib.hid (HU2.out.ext hA)
  replace HU3 := Lib.hid (HU3.out.ext hA)
  have HI := Lib.hid hI
  clear hA hI
  refine HI.out.mono ?_
  rintro e w3 ⟨rfl, hb⟩
  replace HE := Lib.hid (HE.out.trans hb)
  replace HU2 := Lib.hid (HU2.out.ext hb)
  replace HU3 := Lib.hid (HU3.out.ext hb)
  clear hb HI
  go_wp2_with fail
  have hA := (Ext.refl w3).alloc (.cells #[.int .i64 1, .int .i64 2, .int .i64 4, .int .i64 8, .int .i64 10, .int .i64 12, .int .i64 16, .int .i64 18, .int .i64 20, .int .i64 30, .int .i64 31] 3)
  have hI := ints_any u2 _ (ints [1, 2, 4, 8, 10, 12, 16, 18, 20, 30, 31]) (ints [1, 2, 4, 8, 10, 12, 16, 18, 20, 30, 31]) _ (HU2.out.ext hA) (Reads.new w3 [1, 2, 4, 8, 10, 12, 16, 18, 20, 30, 31] 3 _ rfl (by simp) _ rfl 11 11 rfl)
  rw [show (ints [1, 2, 4, 8, 10, 12, 16, 18, 20, 30, 31] == ints [1, 2, 4, 8, 10, 12, 16, 18, 20, 30, 31]) = true from by decide] at hI
  replace HE := Lib.hid (HE.out.trans hA)
  replace HU3 := Lib.hid (HU3.out.ext hA)
  have HI := Lib.hid hI
  clear hA hI
  refine HI.out.mono ?_
  rintro e w3 ⟨rfl, hb⟩
  replace HE := Lib.hid (HE.out.trans hb)
  replace HU3 := Lib.hid (HU3.out.ext hb)
  clear hb HI
  go_wp2_with fail
  have hA := (Ext.refl w3).alloc (.cells #[.int .i64 0, .int .i64 2, .int .i64 3] 3)
  have hI := ints_any u3 _ (ints [0, 2, 3]) (ints [0, 2, 3]) _ (HU3.out.ext hA) (Reads.new w3 [0, 2, 3] 3 _ rfl (by simp) _ rfl 3 3 rfl)
  rw [show (ints [0, 2, 3] == ints [0, 2, 3]) = true from by decide] at hI
  replace HE := Lib.hid (HE.out.trans hA)
  have HI := Lib.hid hI
  clear hA hI
  refine HI.out.mono ?_
  rintro e w3 ⟨rfl, hb⟩
  replace HE := Lib.hid (HE.out.trans hb)
  clear hb HI
  go_wp2
  go_ret
  exact ⟨rfl, HE.out⟩
end Go.Proofs.Ytlgdnbpboonhdaa
