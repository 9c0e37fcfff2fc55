/- pick once more, with the capacity of what it returns. The marks that are asked for: ask, where it returns an error. The marks that are asked for: ask, where there are too many, or one is not in range. The marks that are asked for: ask, where all is well. Families: fits and isFamily. -/
import Derived.Test.YtlgdnbpboonhdaaM10
import Derived.Test.YtlgdnbpboonhdaaW4
import Derived.Test.YtlgdnbpboonhdaaT3
namespace Go.Proofs.Ytlgdnbpboonhdaa
open Go.RowKit
set_option linter.unusedVariables false
/-- A slice that is no longer than its capacity. -/
def CapOk (v : Value) : Prop := ∃ a n c, v = .slice a n c ∧ n ≤ c
theorem CapOk.le {a : Option Addr} {n c : Nat} (h : CapOk (.slice a n c)) : n ≤ c := by
  obtain ⟨_, _, _, e, h⟩ := h
  cases e; exact h
theorem Owns.capOk {B : Nat} {w : World} {v : Value} {xs : List Int} (h : Owns B w v xs) : CapOk v := by
  obtain ⟨_, h⟩ := h
  rcases h with ⟨rfl, h0⟩ | ⟨g, cap, cur, rfl, hb, hh, hn, hc, hs, ht⟩
  · exact ⟨_, _, _, rfl, Nat.le_refl _⟩
  · exact ⟨_, _, _, rfl, hn⟩
set_option maxRecDepth 100000 in
theorem pick59c (g : FuncId) (c1 c2 : Array Value) (lo n : Nat) (hi : Int) (p : Nat → Bool) (w : World) (hn : hi = (lo : Int) + n - 1) (hlo : lo ≤ 2000) (hn2 : n ≤ 2000)
    (hent : ∀ args W, (callFunc g args).run Try.prog W = .ok (.enter g args) W)
    (hg : ∀ i W, i < n → Ext w W → Calls Try.prog g (c1.push (.int .i64 ((lo + i : Nat) : Int)) ++ c2) W fun e w' => e = .returned (.bool (p (lo + i))) ∧ Ext W w') :
    Calls Try.prog 59 #[.int .i64 (lo : Int), .int .i64 hi, .func (.func g) c1 c2] w fun e w' => ∃ v, e = .returned v ∧ (Reads w' v (ints (pickL lo n p)) ∧ CapOk v) ∧ Ext w w' := by
  have HG := Lib.hid hg; have HN := Lib.hid hn; clear hg hn
  go_enter Try.func59, Try.ntmps59
  go_wp2
  go_loopw [7, 8] (fun v i wr => ∃ j : Nat, lo ≤ j ∧ j ≤ lo + n ∧ i = .int .i64 (j : Int) ∧ Hid (Ext w wr) ∧ Hid (Owns w.heap.size wr v (ints (pickL lo (j - lo) p)))) (fun v i wr => lo + n - (RowKit.intOf i).toNat)
  case atStart => exact ⟨lo, Nat.le_refl _, by omega, rfl, Ext.refl _, (by rw [Nat.sub_self]; exact Owns.nil _ _ : Owns _ _ _ _)⟩
  case round =>
    obtain ⟨j, hj, hj2, rfl, hE, hO⟩ := hrel
    by_cases hlt : j < lo + n
    · have h1 : (j : Int) ≤ hi := by have := HN.out; omega
      have hc := HG.out (j - lo) wr (by omega) hE.out
      rw [show lo + (j - lo) = j by omega] at hc
      have HC := Lib.hid hc; clear hc
      go_wp2_with fail
      refine HC.out.mono ?_
      rintro e w' ⟨rfl, hb⟩
      have hO' := ownsI_ext hO.out hb
      have HE' := Lib.hid (hE.out.trans hb); clear hb
      have hpl : (pickL lo (j - lo) p).length ≤ j - lo := pickL_len _ _ _
      have hps := pickL_succ lo (j - lo) p
      rw [show lo + (j - lo) = j by omega, show (j - lo) + 1 = j + 1 - lo by omega] at hps
      have HPS := Lib.hid hps; have HO' := Lib.hid hO'; clear hps hO'
      cases hpj : p j
      · rw [hpj] at HPS
        go_wp2
        go_roundw
        case rel => exact ⟨j + 1, by omega, by omega, by go_num, HE'.out, (by rw [HPS.out]; simpa using HO'.out : Owns _ _ _ _)⟩
        case measure => simp [RowKit.intOf]; omega
      · rw [hpj] at HPS
        go_wp2_with (at_builtin; refine append1 w' w.heap.size _ _ _ _ _ rfl rfl rfl HO'.out HE'.out.size (by rw [ints_length]; omega) rfl ?_; intro v' w3 hO3 hB3)
        have HO3 := Lib.hid hO3; have HB3 := Lib.hid hB3; clear hO3 hB3
        go_wp2
        go_roundw
        case rel => exact ⟨j + 1, by omega, by omega, by go_num, Below.trans HE'.out HB3.out, (by rw [HPS.out]; simpa [ints] using HO3.out : Owns _ _ _ _)⟩
        case measure => simp [RowKit.intOf]; omega
    · have h1 : ¬ (j : Int) ≤ hi := by have := HN.out; omega
      go_wp2
      go_ret
      obtain rfl : j = lo + n := by omega
      rw [Nat.add_sub_cancel_left] at hO
      exact ⟨_, rfl, ⟨hO.out.reads (by rw [ints_length]; have := pickL_len lo n p; omega), hO.out.capOk⟩, hE.out⟩
end Go.Proofs.Ytlgdnbpboonhdaa
namespace Go.Proofs.Ytlgdnbpboonhdaa
open Go.RowKit Go.Shelf Go.Maps
set_option linter.unusedVariables false
attribute [local go_sem] Oper.semAt_some
theorem still_tail {P : Program} {id : Nat} {Q : Exit → Act → World → Prop} {a : Act} {w : World} {l : List Oper} (n : Nat) (hm : P.follows .mixedOrders = true) (hB : Region.lexTailB .any l.toArray n = true)
    (h : ∀ W : World, W = w.drew → wpStill P l.toArray W (fun a' => wpList P l.toArray Q (l.drop n) a' W) (l.take n) a) : (Code.region id l.toArray true).wp P Q a w :=
  wp_region_still_tail n hm hB (h _ rfl)
set_option maxRecDepth 100000 in
theorem ask1_100 (b S L bt i Br Bm : Nat) (ms qs : List Nat) (v u : Value) (T : Nat → Bool) (w : World) (hv : Valid S L ms) (ha : Valid S L qs) (hr : RegT w b S L bt v ms T) (hi : i < qs.length)
    (hBr : w.cell? ⟨Br, 0, none⟩ = some (.pointer (some ⟨b, 0, none⟩))) (hBm : w.cell? ⟨Bm, 0, none⟩ = some u) (hu : Reads w u (ints qs)) :
    Calls Try.prog 100 #[.int .i64 (i : Int), .pointer (some ⟨Br, 0, none⟩), .pointer (some ⟨Bm, 0, none⟩)] w fun e w' => e = .returned (.bool (untakenB (mAt qs i) L T)) ∧ Ext w w' := by
  obtain ⟨hl, a, cap, rfl⟩ := hu.shape
  have hai : qs[i]? = some (mAt qs i) := by simp [mAt, hi]
  obtain ⟨b1, off, rfl, hl2, hcy⟩ := hu.atN hai
  have hka : (0 : Int) ≤ (i : Int) := by omega
  have hkb : (i : Int) < (qs.length : Int) := by omega
  rw [ints_length] at *
  have H := fun W (hW : Ext w W) => untaken77 b S L bt (mAt qs i) ms v T W hv (hr.ext hW) (ha.mlt hai)
  have HH := Lib.hid H
  clear H hr hv ha hu hai
  have hmix : Try.prog.follows .mixedOrders = true := by kernel_rfl
  go_enter Try.func100, Try.ntmps100
  go_wp2
  refine still_tail 5 hmix (by kernel_rfl) fun W hW => ?_
  have hE : Ext w W := by rw [hW]; exact (Ext.refl w).drew
  clear hW
  have hBr := cell_ext hE hBr
  have hBm := cell_ext hE hBm
  have hcy := cell_ext hE hcy
  simp only [List.take_succ_cons, List.take_zero, List.drop_succ_cons, List.drop_zero]
  repeat still_step
  refine wpStill_nil ?_
  go_wp2_with (go_at_call 77; refine (HH.out _ hE).mono ?_; rintro e w' ⟨rfl, hb⟩; have HB := Lib.hid hb; clear hb)
  go_ret
  exact ⟨rfl, hE.trans HB.out⟩
theorem results_cell93 {fn : Func} {p t : Tmp} {x y z : Value} (h : fn.results = #[.cell p 93, .tmp t]) (tmps : Array Value) (w : World) (b : Nat)
    (hp : tmps.getD p undef = .pointer (some ⟨b, 0, none⟩)) (hc : w.heap[b]? = some (.cells #[x, y, z] 93 (0, 0))) :
    (results fn tmps).run Try.prog w = .ok (.tuple #[.agg #[x, y, z], tmps.getD t undef]) w := by
  have hp' : tmps[p]?.getD undef = .pointer (some ⟨b, 0, none⟩) := by simpa using hp
  have c0 : w.cell? ⟨b, 0, none⟩ = some x := by rw [cell_of_row _ _ _ _ _ _ hc]; rfl
  have c1 : w.cell? ⟨b, 1, none⟩ = some y := by rw [cell_of_row _ _ _ _ _ _ hc]; rfl
  have c2 : w.cell? ⟨b, 2, none⟩ = some z := by rw [cell_of_row _ _ _ _ _ _ hc]; rfl
  simp [results, h, hp', asAddr, loadVar, isAgg, run_underlying Try.underlying93, go_sem, c0, c1, c2]
theorem cells3_set {W : World} {b : Nat} {x y z : Value} {t : TypeId} {fr : Nat × Nat} (h : W.heap[b]? = some (.cells #[x, y, z] t fr)) (x' y' z' : Value) :
    (((W.setCell ⟨b, 0, none⟩ x').setCell ⟨b, 1, none⟩ y').setCell ⟨b, 2, none⟩ z').heap[b]? = some (.cells #[x', y', z'] t fr) := by
  have h1 : (W.setCell ⟨b, 0, none⟩ x').heap[b]? = some (.cells #[x', y, z] t fr) := by
    show (W.heap.modify b _)[b]? = _
    rw [Array.getElem?_modify, h]; simp
  have h2 : ((W.setCell ⟨b, 0, none⟩ x').setCell ⟨b, 1, none⟩ y').heap[b]? = some (.cells #[x', y', z] t fr) := by
    show ((W.setCell ⟨b, 0, none⟩ x').heap.modify b _)[b]? = _
    rw [Array.getElem?_modify, h1]; simp
  show (((W.setCell ⟨b, 0, none⟩ x').setCell ⟨b, 1, none⟩ y').heap.modify b _)[b]? = _
  rw [Array.getElem?_modify, h2]; simp
theorem ext_set {w W : World} (h : Ext w W) {b o : Nat} (hb : w.heap.size ≤ b) (v : Value) : Ext w (W.setCell ⟨b, o, none⟩ v) := Below.setCell (p := ⟨b, o, none⟩) h hb v
theorem ask79_err (S L : Int) (xs ys : List Int) (v u : Value) (w : World) (hr : Reads w v xs) (hu : Reads w u ys) (hc : chk S L xs ≠ 0) :
    Calls Try.prog 79 #[.agg #[.int .i64 S, .int .i64 L, v], u] w fun e w' => e = .returned (.tuple #[.agg #[.pointer none, .slice none 0 0, .map none], .int .i64 (chk S L xs)]) ∧ Ext w w' := by
  obtain ⟨hl, a, cap, rfl⟩ := hr.shape
  obtain ⟨hl', a', cap', rfl⟩ := hu.shape
  have E0 := Lib.hid ((((Ext.refl w).alloc (.cells #[.int .i64 S, .int .i64 L, .slice a xs.length cap] 24)).alloc (.cells #[.slice a' ys.length cap'] 22)).alloc (.cells #[.pointer none, .slice none 0 0, .map none] 93))
  have H := Lib.hid (open_err S L xs _ (.slice none 0 0) _ (hr.ext E0.out) hc)
  clear hr hu
  obtain ⟨c, hc'⟩ : ∃ c, c = chk S L xs := ⟨_, rfl⟩
  rw [← hc'] at hc H ⊢
  have hd : (c != 0) = true := by simpa using hc
  clear hc hc'
  go_enter Try.func79, Try.ntmps79
  go_wp2_with fail
  refine H.out.mono ?_
  rintro e w' ⟨rfl, hb⟩
  have HB := Lib.hid (E0.out.trans hb)
  have hB2 := block_ext hb (heap_alloc_new (((w.alloc (.cells #[.int .i64 S, .int .i64 L, .slice a xs.length cap] 24)).alloc (.cells #[.slice a' ys.length cap'] 22))) (.cells #[.pointer none, .slice none 0 0, .map none] 93))
  rw [World.size_alloc, World.size_alloc] at hB2
  have f0 := frozen_of_row _ _ 0 _ _ hB2
  have f1 := frozen_of_row _ _ 1 _ _ hB2
  have f2 := frozen_of_row _ _ 2 _ _ hB2
  have c0 : w'.cell? ⟨w.heap.size + 1 + 1, 0, none⟩ = some (.pointer none) := by rw [cell_of_row _ _ _ _ _ _ hB2]; rfl
  have c1 : w'.cell? ⟨w.heap.size + 1 + 1, 1, none⟩ = some (.slice none 0 0) := by rw [cell_of_row _ _ _ _ _ _ hB2]; rfl
  have c2 : w'.cell? ⟨w.heap.size + 1 + 1, 2, none⟩ = some (.map none) := by rw [cell_of_row _ _ _ _ _ _ hB2]; rfl
  have HB2 := Lib.hid hB2
  have hsz : w.heap.size + 1 + 1 < w'.heap.size := (Array.getElem?_eq_some_iff.1 hB2).1
  clear hB2 hb
  go_wp2
  refine bodyPost_ret (v := .tuple #[.agg #[.pointer none, .slice none 0 0, .map none], .int .i64 c]) ?_ rfl ⟨rfl, ?_⟩
  · exact results_cell93 Try.results79 _ _ (w.heap.size + 1 + 1) rfl ((Below.heap_alloc _ _ _ (by simpa using hsz)).trans (cells3_set HB2.out _ _ _))
  · exact (ext_set (ext_set (ext_set HB.out (by omega) _) (by omega) _) (by omega) _).alloc _
end Go.Proofs.Ytlgdnbpboonhdaa
namespace Go.Proofs.Ytlgdnbpboonhdaa
open Go.RowKit Go.Shelf Go.Maps
set_option linter.unusedVariables false
attribute [local go_sem] Oper.semAt_some
theorem ask79_many (S L : Nat) (ms : List Nat) (ys : List Int) (v u : Value) (w : World) (hv : Valid S L ms) (hr : Reads w v (ints ms)) (hu : Reads w u ys) (hy : 12 < ys.length) :
    Calls Try.prog 79 #[.agg #[.int .i64 (S : Int), .int .i64 (L : Int), v], u] w fun e w' => e = .returned (.tuple #[.agg #[.pointer none, .slice none 0 0, .map none], .int .i64 6]) ∧ Ext w w' := by
  obtain ⟨hl, a, cap, rfl⟩ := hr.shape
  obtain ⟨hl', a', cap', rfl⟩ := hu.shape
  have E0 := Lib.hid ((((Ext.refl w).alloc (.cells #[.int .i64 (S : Int), .int .i64 (L : Int), .slice a (ints ms).length cap] 24)).alloc (.cells #[.slice a' ys.length cap'] 22)).alloc (.cells #[.pointer none, .slice none 0 0, .map none] 93))
  have HO := Lib.hid (open_ok S L ms _ (.slice none 0 0) [] _ hv (hr.ext E0.out) (Reads.nil _) rfl)
  have b1 := (Boxed.new (w.alloc (.cells #[.int .i64 (S : Int), .int .i64 (L : Int), .slice a (ints ms).length cap] 24)) 22 (.slice a' ys.length cap')).alloc (.cells #[.pointer none, .slice none 0 0, .map none] 93)
  rw [World.size_alloc] at b1
  have B1 := Lib.hid b1
  clear hr hu b1
  have hy2 : (12 : Int) < (ys.length : Int) := by omega
  go_enter Try.func79, Try.ntmps79
  go_wp2_with fail
  refine HO.out.mono ?_
  rintro e w' ⟨b, bt, rfl, hb1, hb2, hbne, ho, h3, hrow, hb⟩
  have HB := Lib.hid (E0.out.trans hb)
  have hB2 := block_ext hb (heap_alloc_new (((w.alloc (.cells #[.int .i64 S, .int .i64 L, .slice a (ints ms).length cap] 24)).alloc (.cells #[.slice a' ys.length cap'] 22))) (.cells #[.pointer none, .slice none 0 0, .map none] 93))
  rw [World.size_alloc, World.size_alloc] at hB2
  have f0 := frozen_of_row _ _ 0 _ _ hB2
  have f1 := frozen_of_row _ _ 1 _ _ hB2
  have f2 := frozen_of_row _ _ 2 _ _ hB2
  have c0 : w'.cell? ⟨w.heap.size + 1 + 1, 0, none⟩ = some (.pointer none) := by rw [cell_of_row _ _ _ _ _ _ hB2]; rfl
  have c1 : w'.cell? ⟨w.heap.size + 1 + 1, 1, none⟩ = some (.slice none 0 0) := by rw [cell_of_row _ _ _ _ _ _ hB2]; rfl
  have c2 : w'.cell? ⟨w.heap.size + 1 + 1, 2, none⟩ = some (.map none) := by rw [cell_of_row _ _ _ _ _ _ hB2]; rfl
  have c3 := cell_ext ((Ext.refl w').alloc (.cells #[.pointer (some ⟨b, 0, none⟩)] 63)) (Boxed.cell (block_ext hb B1.out))
  have HB2 := Lib.hid hB2
  have hsz : w.heap.size + 1 + 1 < w'.heap.size := (Array.getElem?_eq_some_iff.1 hB2).1
  clear hB2 hb ho h3 hrow hb1 hb2 hbne
  go_wp2
  refine bodyPost_ret (v := .tuple #[.agg #[.pointer none, .slice none 0 0, .map none], .int .i64 6]) ?_ rfl ⟨rfl, ?_⟩
  · exact results_cell93 Try.results79 _ _ (w.heap.size + 1 + 1) rfl ((Below.heap_alloc _ _ _ (by simpa using hsz)).trans (cells3_set HB2.out _ _ _))
  · exact (ext_set (ext_set (ext_set HB.out (by omega) _) (by omega) _) (by omega) _).alloc _
set_option maxRecDepth 100000 in
theorem ask79_range (S L : Nat) (ms : List Nat) (ys : List Int) (v u : Value) (w : World) (hv : Valid S L ms) (hr : Reads w v (ints ms)) (hu : Reads w u ys) (hy : ys.length ≤ 12) (hin : inR 1 (full S : Int) ys = false) :
    Calls Try.prog 79 #[.agg #[.int .i64 (S : Int), .int .i64 (L : Int), v], u] w fun e w' => e = .returned (.tuple #[.agg #[.pointer none, .slice none 0 0, .map none], .int .i64 3]) ∧ Ext w w' := by
  obtain ⟨hl, a, cap, rfl⟩ := hr.shape
  obtain ⟨hl', a', cap', rfl⟩ := hu.shape
  have E0 := Lib.hid ((((Ext.refl w).alloc (.cells #[.int .i64 (S : Int), .int .i64 (L : Int), .slice a (ints ms).length cap] 24)).alloc (.cells #[.slice a' ys.length cap'] 22)).alloc (.cells #[.pointer none, .slice none 0 0, .map none] 93))
  have P0 := Lib.hid ((OffAt.new w (.int .i64 S) (.int .i64 L) (.slice a (ints ms).length cap) 24).ext (((Ext.refl _).alloc (.cells #[.slice a' ys.length cap'] 22)).alloc (.cells #[.pointer none, .slice none 0 0, .map none] 93)))
  have HO := Lib.hid (open_ok S L ms _ (.slice none 0 0) [] _ hv (hr.ext E0.out) (Reads.nil _) rfl)
  have b1 := (Boxed.new (w.alloc (.cells #[.int .i64 (S : Int), .int .i64 (L : Int), .slice a (ints ms).length cap] 24)) 22 (.slice a' ys.length cap')).alloc (.cells #[.pointer none, .slice none 0 0, .map none] 93)
  rw [World.size_alloc] at b1
  have B1 := Lib.hid b1
  have HU := Lib.hid hu; have HIN := Lib.hid hin
  have hS1 := hv.1
  have hS2 := hv.2.1
  clear hr hu b1 hin
  have hy2 : (ys.length : Int) ≤ 12 := by omega
  go_enter Try.func79, Try.ntmps79
  go_wp2_with fail
  refine HO.out.mono ?_
  rintro e w' ⟨b, bt, rfl, hb1, hb2, hbne, ho, h3, hrow, hb⟩
  have HB := Lib.hid (E0.out.trans hb)
  obtain ⟨g1, g2, g3⟩ := P0.out.ext hb
  have hB2 := block_ext hb (heap_alloc_new (((w.alloc (.cells #[.int .i64 S, .int .i64 L, .slice a (ints ms).length cap] 24)).alloc (.cells #[.slice a' ys.length cap'] 22))) (.cells #[.pointer none, .slice none 0 0, .map none] 93))
  rw [World.size_alloc, World.size_alloc] at hB2
  have g4 := Boxed.cell (block_ext hb B1.out)
  have HB2 := Lib.hid hB2
  have hsz : w.heap.size + 1 + 1 < w'.heap.size := (Array.getElem?_eq_some_iff.1 hB2).1
  clear hB2 hb ho h3 hrow hb1 hb2 hbne
  have hmix : Try.prog.follows .mixedOrders = true := by kernel_rfl
  have g5 := cell_ext ((Ext.refl w').alloc (.cells #[.pointer (some ⟨b, 0, none⟩)] 63)) g4
  go_wp2
  have hA := (Ext.refl w').alloc (.cells #[.pointer (some ⟨b, 0, none⟩)] 63)
  replace g1 := cell_ext hA g1
  replace g2 := cell_ext hA g2
  replace g3 := cell_ext hA g3
  replace g4 := cell_ext hA g4
  replace HB := Lib.hid (HB.out.trans hA)
  replace HB2 := Lib.hid (block_ext hA HB2.out)
  have hsz2 : w.heap.size + 1 + 1 < (w'.alloc (.cells #[.pointer (some ⟨b, 0, none⟩)] 63)).heap.size := by simp; omega
  clear hA hsz
  generalize (w'.alloc (.cells #[.pointer (some ⟨b, 0, none⟩)] 63)) = W2 at *
  go_region_held3 (fun X => X.cell? ⟨w.heap.size, 0, none⟩ = some (.int .i64 S) ∧ X.cell? ⟨w.heap.size, 1, none⟩ = some (.int .i64 L) ∧ X.cell? ⟨w.heap.size, 2, none⟩ = some (.slice a (ints ms).length cap) ∧ X.cell? ⟨w.heap.size + 1, 0, none⟩ = some (.slice a' ys.length cap') ∧ Hid (Ext W2 X))
    (first | assumption | exact ⟨g1, g2, g3, g4, Ext.drew (Ext.refl _)⟩ | exact ⟨cell_ext (Ext.ofDrew hb) g1, cell_ext (Ext.ofDrew hb) g2, cell_ext (Ext.ofDrew hb) g3, cell_ext (Ext.ofDrew hb) g4, Ext.ofDrew hb⟩)
    (first | (go_at_call 58; refine (allStrokes_any _ _ _ _ hS1 hS2).mono ?_; rintro e w2 ⟨rfl, hb⟩)
            | (go_at_call 57; refine (within_any _ _ _ ys _ (HU.out.ext (HB.out.trans (Ext.ofDrew hb)))).mono ?_; rintro e w3 ⟨rfl, rfl⟩))
  all_goals
    rename_i hk
    obtain ⟨-, -, -, -, k5⟩ := hk
    rw [HIN.out]
    have hB2 := block_ext k5.out HB2.out
    have f0 := frozen_of_row _ _ 0 _ _ hB2
    have f1 := frozen_of_row _ _ 1 _ _ hB2
    have f2 := frozen_of_row _ _ 2 _ _ hB2
    have c0 : w2.cell? ⟨w.heap.size + 1 + 1, 0, none⟩ = some (.pointer none) := by rw [cell_of_row _ _ _ _ _ _ hB2]; rfl
    have c1 : w2.cell? ⟨w.heap.size + 1 + 1, 1, none⟩ = some (.slice none 0 0) := by rw [cell_of_row _ _ _ _ _ _ hB2]; rfl
    have c2 : w2.cell? ⟨w.heap.size + 1 + 1, 2, none⟩ = some (.map none) := by rw [cell_of_row _ _ _ _ _ _ hB2]; rfl
    have HB3 := Lib.hid hB2; have HE := Lib.hid (HB.out.trans k5.out)
    clear hB2 k5 hb
    go_wp2
    refine bodyPost_ret (v := .tuple #[.agg #[.pointer none, .slice none 0 0, .map none], .int .i64 3]) ?_ rfl ⟨rfl, ?_⟩
    · exact results_cell93 Try.results79 _ _ (w.heap.size + 1 + 1) rfl (cells3_set HB3.out _ _ _)
    · exact ext_set (ext_set (ext_set HE.out (by omega) _) (by omega) _) (by omega) _
end Go.Proofs.Ytlgdnbpboonhdaa
namespace Go.Proofs.Ytlgdnbpboonhdaa
open Go.RowKit Go.Shelf Go.Maps
set_option linter.unusedVariables false
attribute [local go_sem] Oper.semAt_some
theorem ent100 (args : Array Value) (W : World) : (callFunc 100 args).run Try.prog W = .ok (.enter 100 args) W := by simp [callFunc, Try.func100, go_sem]; rfl
/-- The indexes of the marks that are free, and the pairs of them that clash. -/
def freeIx (ms : List Nat) (L : Nat) (qs : List Nat) : List Nat := pickL 0 qs.length fun i => untakenB (mAt qs i) L (freeT ms L)
def askF (ms : List Nat) (L : Nat) (qs : List Nat) (p : Nat × Nat) : Option Nat := if p.1 ∈ freeIx ms L qs ∧ p.2 ∈ freeIx ms L qs then clF qs L (pairsL qs.length) p else none
theorem block_turn {A B : World} {k bt : Nat} {o : Obj} (hg : A.grownBy B (some bt)) (h : A.heap[k]? = some o) (hne : k ≠ bt) : B.heap[k]? = some o :=
  (hg.block k (Array.getElem?_eq_some_iff.1 h).1 (fun e => hne (Option.some.inj e))).trans h
theorem Reads.setOther {W : World} {v c y : Value} {xs : List Int} {b o : Nat} (h : Reads W v xs) (hc : W.cell? ⟨b, o, none⟩ = some c) (hn : ∀ k, c ≠ .int .i64 k) : Reads (W.setCell ⟨b, o, none⟩ y) v xs := by
  obtain ⟨hl, a, cap, rfl, h⟩ := h
  refine ⟨hl, a, cap, rfl, h.imp id ?_⟩
  rintro ⟨g, off, rfl, hg⟩
  refine ⟨g, off, rfl, fun i hi => ?_⟩
  refine (World.cell?_setCell_other _ _ _ _ (fun e => ?_)).trans (hg i hi)
  have h1 := hg i hi
  rw [← e, hc] at h1
  exact hn _ (Option.some.inj h1)
theorem MapIs.congr {D : DataW Unit} {f f' : Nat × Nat → Option Nat} (h : MapIs D f) (e : ∀ a b, a < 1000 → b < 1000 → f (a, b) = f' (a, b)) : MapIs D f' :=
  ⟨h.1, fun a b ha hb => by rw [← e a b ha hb]; exact h.2.1 a b ha hb, h.2.2⟩
/-- What the map holds while the loop runs: what is still to come, and what stays. -/
def keepF (fi : List Nat) (g : Nat × Nat → Option Nat) (left : Lit → Bool) (p : Nat × Nat) : Option Nat := if (left (kp p) || (decide (p.1 ∈ fi) && decide (p.2 ∈ fi))) = true then g p else none
theorem keepF_start {D : DataW Unit} {g : Nat × Nat → Option Nat} (h : MapIs D g) (fi : List Nat) : MapIs D (keepF fi g (has D)) := h.congr fun a b ha hb => by
  unfold keepF
  rw [(h.2.1 a b ha hb).1]
  cases g (a, b) <;> simp
theorem keepF_stay {D : DataW Unit} {g : Nat × Nat → Option Nat} {fi : List Nat} {left : Lit → Bool} (h : MapIs D (keepF fi g left)) {p : Nat × Nat} (hp : p.1 < 1000 ∧ p.2 < 1000) (hf : p.1 ∈ fi ∧ p.2 ∈ fi) : MapIs D (keepF fi g (fun z => left z && !z.sameKey (kp p))) := h.congr fun a b ha hb => by
  unfold keepF
  by_cases e : (a, b) = p
  · rw [e]; simp [hf]
  · have : (kp (a, b)).sameKey (kp p) = false := by
      rw [Bool.eq_false_iff]; intro hh; exact e (kp_inj' ⟨ha, hb⟩ hp ((sameKey_kp _ _).1 hh))
    simp [this]
theorem keepF_del {D : DataW Unit} {g : Nat × Nat → Option Nat} {fi : List Nat} {left : Lit → Bool} (h : MapIs D (keepF fi g left)) {p : Nat × Nat} (hp : p.1 < 1000 ∧ p.2 < 1000) (hf : ¬ (p.1 ∈ fi ∧ p.2 ∈ fi)) : MapIs (D.del (kp p)) (keepF fi g (fun z => left z && !z.sameKey (kp p))) := (h.del p hp).congr fun a b ha hb => by
  by_cases e : (a, b) = p
  · rw [if_pos e, e]
    unfold keepF
    have h2 : (kp p).sameKey (kp p) = true := (sameKey_kp p p).2 rfl
    rw [if_neg]
    simp only [h2, Bool.not_true, Bool.and_false, Bool.false_or, Bool.and_eq_true, decide_eq_true_eq]
    exact hf
  · rw [if_neg e]
    unfold keepF
    have : (kp (a, b)).sameKey (kp p) = false := by
      rw [Bool.eq_false_iff]; intro hh; exact e (kp_inj' ⟨ha, hb⟩ hp ((sameKey_kp _ _).1 hh))
    simp [this]
theorem keepF_end {D : DataW Unit} {g : Nat × Nat → Option Nat} {fi : List Nat} {left : Lit → Bool} (h : MapIs D (keepF fi g left)) (hl : ∀ kl, left kl = false) : MapIs D (fun p => if p.1 ∈ fi ∧ p.2 ∈ fi then g p else none) := h.congr fun a b ha hb => by
  unfold keepF
  rw [hl]
  simp
/-- What lies beside the map while the loop runs. -/
def Side79 (w : World) (Ba : Nat) (r2 u m : Value) (fi : List Nat) (x : World) : Prop :=
  x.heap[Ba]? = some (.cells #[r2, u, m] 93 (0, 0)) ∧ x.heap[w.heap.size + 1 + 1]? = some (.cells #[.pointer none, .slice none 0 0, .map none] 93 (0, 0)) ∧ Reads x u (ints fi) ∧ Ext w x
theorem Side79.turn {w A B : World} {Ba : Nat} {r2 u m : Value} {fi : List Nat} (h : Side79 w Ba r2 u m fi A) {row : Option Nat} (hg : A.grownBy B row) (hr : ∀ r, row = some r → w.heap.size ≤ r ∧ ∃ o : Obj, A.heap[r]? = some o ∧ o.isCells = false) : Side79 w Ba r2 u m fi B :=
  ⟨cells_turn h.1 hg hr, cells_turn h.2.1 hg hr, h.2.2.1.keeps (keeps_turn hg hr), h.2.2.2.grown hg h.2.2.2.size (fun k e => (hr k e).1)⟩
theorem Reads.set3 {W : World} {v x y z x' y' z' : Value} {xs : List Int} {b t : Nat} {fr : Nat × Nat} (h : Reads W v xs) (hb : W.heap[b]? = some (.cells #[x, y, z] t fr)) (hx : ∀ k, x ≠ .int .i64 k) (hy : ∀ k, y ≠ .int .i64 k) (hz : ∀ k, z ≠ .int .i64 k) :
    Reads (((W.setCell ⟨b, 0, none⟩ x').setCell ⟨b, 1, none⟩ y').setCell ⟨b, 2, none⟩ z') v xs := by
  have c0 : W.cell? ⟨b, 0, none⟩ = some x := by rw [cell_of_row _ _ _ _ _ _ hb]; rfl
  have c1 : W.cell? ⟨b, 1, none⟩ = some y := by rw [cell_of_row _ _ _ _ _ _ hb]; rfl
  have c2 : W.cell? ⟨b, 2, none⟩ = some z := by rw [cell_of_row _ _ _ _ _ _ hb]; rfl
  have d1 : (W.setCell ⟨b, 0, none⟩ x').cell? ⟨b, 1, none⟩ = some y := (World.cell?_setCell_other _ _ _ _ (by simp)).trans c1
  have d2 : ((W.setCell ⟨b, 0, none⟩ x').setCell ⟨b, 1, none⟩ y').cell? ⟨b, 2, none⟩ = some z := (World.cell?_setCell_other _ _ _ _ (by simp)).trans ((World.cell?_setCell_other _ _ _ _ (by simp)).trans c2)
  exact ((h.setOther c0 hx).setOther d1 hy).setOther d2 hz
theorem contains101_nat (v : Value) (fi : List Nat) (n : Nat) (bb : Bool) (hb : bb = decide (n ∈ fi)) (w : World) (hx : Reads w v (ints fi)) :
    Calls Try.prog 101 #[v, .int .i64 (n : Int)] w fun e w' => e = .returned (.bool bb) ∧ w = w' := (contains101_any v (ints fi) (n : Int) w hx).mono fun e w' ⟨h1, h2⟩ => by
  refine ⟨?_, h2⟩
  rw [h1, hb]
  have : ((n : Int) ∈ ints fi) ↔ n ∈ fi := by
    unfold ints
    rw [List.mem_map]
    exact ⟨fun ⟨m, hm, e⟩ => by rw [← Int.ofNat_inj.1 e]; exact hm, fun h => ⟨n, h, rfl⟩⟩
  simp [this]
set_option maxRecDepth 100000 in
set_option maxHeartbeats 4000000 in
theorem ask79_ok (S L : Nat) (ms : List Nat) (qs : List Nat) (v u : Value) (w : World) (hv : Valid S L ms) (hr : Reads w v (ints ms)) (hu : Reads w u (ints qs)) (hq : Valid S L qs) :
    Calls Try.prog 79 #[.agg #[.int .i64 (S : Int), .int .i64 (L : Int), v], u] w fun e w' => ∃ r2 mb u', e = .returned (.tuple #[.agg #[.pointer (some ⟨r2, 0, none⟩), u', .map (some mb)], .int .i64 0]) ∧ (Reads w' u' (ints (freeIx ms L qs)) ∧ CapOk u') ∧ ClMap w' mb 200 (askF ms L qs) ∧ Ext w w' := by
  obtain ⟨ys, hys⟩ : ∃ ys, ys = ints qs := ⟨_, rfl⟩
  have hlen : ys.length = qs.length := by rw [hys, ints_length]
  have hy : ys.length ≤ 12 := by have := hq.2.2.2.1; omega
  have hin : inR 1 (full S : Int) ys = true := by
    rw [hys]
    refine List.all_eq_true.2 fun n hn => ?_
    obtain ⟨m, hm, rfl⟩ := List.mem_map.1 hn
    have := hq.2.2.2.2 m hm
    simp; omega
  rw [← hys] at hu
  have HYS := Lib.hid hys; have HLEN := Lib.hid hlen; have HQ := Lib.hid hq
  clear hys hlen hq
  obtain ⟨hl, a, cap, rfl⟩ := hr.shape
  obtain ⟨hl', a', cap', rfl⟩ := hu.shape
  have E0 := Lib.hid ((((Ext.refl w).alloc (.cells #[.int .i64 (S : Int), .int .i64 (L : Int), .slice a (ints ms).length cap] 24)).alloc (.cells #[.slice a' ys.length cap'] 22)).alloc (.cells #[.pointer none, .slice none 0 0, .map none] 93))
  have oB := ((heap_alloc_new w (.cells #[.int .i64 (S : Int), .int .i64 (L : Int), .slice a (ints ms).length cap] 24)))
  have OB := Lib.hid (block_ext ((Ext.refl _).alloc (.cells #[.pointer none, .slice none 0 0, .map none] 93)) (block_ext ((Ext.refl _).alloc (.cells #[.slice a' ys.length cap'] 22)) oB))
  clear oB
  have P0 := Lib.hid ((OffAt.new w (.int .i64 S) (.int .i64 L) (.slice a (ints ms).length cap) 24).ext (((Ext.refl _).alloc (.cells #[.slice a' ys.length cap'] 22)).alloc (.cells #[.pointer none, .slice none 0 0, .map none] 93)))
  have HO := Lib.hid (open_ok S L ms _ (.slice none 0 0) [] _ hv (hr.ext E0.out) (Reads.nil _) rfl)
  have b1 := (Boxed.new (w.alloc (.cells #[.int .i64 (S : Int), .int .i64 (L : Int), .slice a (ints ms).length cap] 24)) 22 (.slice a' ys.length cap')).alloc (.cells #[.pointer none, .slice none 0 0, .map none] 93)
  rw [World.size_alloc] at b1
  have B1 := Lib.hid b1
  have HU := Lib.hid hu; have HIN := Lib.hid hin
  have HR := Lib.hid hr; have HV := Lib.hid hv
  have hS1 := hv.1
  have hS2 := hv.2.1
  clear hr hu b1 hin hv
  have hy2 : (ys.length : Int) ≤ 12 := by omega
  go_enter Try.func79, Try.ntmps79
  go_wp2_with fail
  refine HO.out.mono ?_
  rintro e w' ⟨b, bt, rfl, hb1, hb2, hbne, ho, h3, hrow, hb⟩
  have HB := Lib.hid (E0.out.trans hb)
  obtain ⟨g1, g2, g3⟩ := P0.out.ext hb
  have hB2 := block_ext hb (heap_alloc_new (((w.alloc (.cells #[.int .i64 S, .int .i64 L, .slice a (ints ms).length cap] 24)).alloc (.cells #[.slice a' ys.length cap'] 22))) (.cells #[.pointer none, .slice none 0 0, .map none] 93))
  rw [World.size_alloc, World.size_alloc] at hB2
  have g4 := Boxed.cell (block_ext hb B1.out)
  have HB2 := Lib.hid hB2
  have hsz : w.heap.size + 1 + 1 < w'.heap.size := (Array.getElem?_eq_some_iff.1 hB2).1
  have HOB := Lib.hid (block_ext hb OB.out); have HMB := Lib.hid (block_ext hb B1.out)
  have HT := Lib.hid (open_reg (HR.out.ext E0.out) hb ho h3 hrow)
  have hrb : bt < w'.heap.size := HT.out.lt
  have hbt : w.heap.size + 1 + 1 < bt := by have := hb2; simp at this; omega
  clear hB2 hb ho h3 hrow hb1 hb2 hbne
  have hmix : Try.prog.follows .mixedOrders = true := by kernel_rfl
  have g5 := cell_ext ((Ext.refl w').alloc (.cells #[.pointer (some ⟨b, 0, none⟩)] 63)) g4
  go_wp2
  have HRB := Lib.hid (Boxed.new w' 63 (.pointer (some ⟨b, 0, none⟩)))
  have hA := (Ext.refl w').alloc (.cells #[.pointer (some ⟨b, 0, none⟩)] 63)
  replace g1 := cell_ext hA g1
  replace g2 := cell_ext hA g2
  replace g3 := cell_ext hA g3
  replace g4 := cell_ext hA g4
  replace HB := Lib.hid (HB.out.trans hA)
  replace HB2 := Lib.hid (block_ext hA HB2.out)
  replace HOB := Lib.hid (block_ext hA HOB.out); replace HMB := Lib.hid (block_ext hA HMB.out); replace HT := Lib.hid (HT.out.ext hA)
  have hsz2 : w.heap.size + 1 + 1 < (w'.alloc (.cells #[.pointer (some ⟨b, 0, none⟩)] 63)).heap.size := by simp; omega
  clear hA hsz
  generalize (w'.alloc (.cells #[.pointer (some ⟨b, 0, none⟩)] 63)) = W2 at *
  go_region_held3 (fun X => X.cell? ⟨w.heap.size, 0, none⟩ = some (.int .i64 S) ∧ X.cell? ⟨w.heap.size, 1, none⟩ = some (.int .i64 L) ∧ X.cell? ⟨w.heap.size, 2, none⟩ = some (.slice a (ints ms).length cap) ∧ X.cell? ⟨w.heap.size + 1, 0, none⟩ = some (.slice a' ys.length cap') ∧ Hid (Ext W2 X))
    (first | assumption | exact ⟨g1, g2, g3, g4, Ext.drew (Ext.refl _)⟩ | exact ⟨cell_ext (Ext.ofDrew hb) g1, cell_ext (Ext.ofDrew hb) g2, cell_ext (Ext.ofDrew hb) g3, cell_ext (Ext.ofDrew hb) g4, Ext.ofDrew hb⟩)
    (first | (go_at_call 58; refine (allStrokes_any _ _ _ _ hS1 hS2).mono ?_; rintro e w2 ⟨rfl, hb⟩)
            | (go_at_call 57; refine (within_any _ _ _ ys _ (HU.out.ext (HB.out.trans (Ext.ofDrew hb)))).mono ?_; rintro e w3 ⟨rfl, rfl⟩))
  all_goals
    rename_i hk
    obtain ⟨-, -, -, -, k5⟩ := hk
    rw [HIN.out]
    replace HB2 := Lib.hid (block_ext k5.out HB2.out); replace HOB := Lib.hid (block_ext k5.out HOB.out); replace HMB := Lib.hid (block_ext k5.out HMB.out); replace HT := Lib.hid (HT.out.ext k5.out); replace HRB := Lib.hid (block_ext k5.out HRB.out)
    replace HB := Lib.hid (HB.out.trans k5.out)
    have c1 := Boxed.cell HRB.out
    clear k5 hb
    go_wp2_with fail
    refine (note75 b S L bt ms _ _ 76 #[] (fun _ => true) _ HV.out HT.out ent76 (fun i W _ _ => any76_calls i W)).mono ?_
    rintro e w3 ⟨rfl, hT3, hG3⟩
    replace HB2 := Lib.hid (block_turn hG3 HB2.out (by omega)); replace HOB := Lib.hid (block_turn hG3 HOB.out (by omega)); replace HMB := Lib.hid (block_turn hG3 HMB.out (by omega)); replace HRB := Lib.hid (block_turn hG3 HRB.out (by omega))
    have HT3 := Lib.hid hT3
    have HE3 := Lib.hid (grown_new HB.out hG3 (by omega))
    have hU3 : Reads w3 (.slice a' ys.length cap') ys := (HU.out.ext HB.out).keeps (KeepsCells.turned HT.out.2.2 hG3)
    have HU3 := Lib.hid hU3
    have c1 := Boxed.cell HRB.out
    have c2 := Boxed.cell HMB.out
    clear hT3 hG3 hU3
    go_wp2_with fail
    have hql := HLEN.out
    have hpick : Calls Try.prog 59 #[.int .i64 0, .int .i64 ((ys.length : Int) - 1), .func (.func 100) #[] #[.pointer (some ⟨w'.heap.size, 0, none⟩), .pointer (some ⟨w.heap.size + 1, 0, none⟩)]] w3 fun e w' => ∃ v, e = .returned v ∧ (Reads w' v (ints (freeIx ms L qs)) ∧ CapOk v) ∧ Ext w3 w' :=
      pick59c 100 #[] #[.pointer (some ⟨w'.heap.size, 0, none⟩), .pointer (some ⟨w.heap.size + 1, 0, none⟩)] 0 qs.length ((ys.length : Int) - 1) (fun i => untakenB (mAt qs i) L (freeT ms L)) _ (by omega) (by omega) (by omega) ent100 (fun i W hi hW => by
      have h := ask1_100 b S L bt i w'.heap.size (w.heap.size + 1) ms qs _ (.slice a' ys.length cap') (freeT ms L) W HV.out HQ.out (HT3.out.ext hW) hi (cell_ext hW c1) (cell_ext hW c2) (by rw [← HYS.out]; exact HU3.out.ext hW)
      simpa using h)
    refine hpick.mono ?_
    clear hql hpick
    rintro e w4 ⟨u5, rfl, ⟨hru, hcap5⟩, hb4⟩
    obtain ⟨hl5, a5, cap5, rfl⟩ := hru.shape
    have hcap5' := hcap5.le
    obtain ⟨fi, hfi⟩ : ∃ fi, fi = freeIx ms L qs := ⟨_, rfl⟩
    rw [← hfi] at hru hl5 hcap5' ⊢
    obtain ⟨n5, hn5⟩ : ∃ n5, n5 = (ints fi).length := ⟨_, rfl⟩
    rw [← hn5] at hru hl5 hcap5' ⊢
    clear hcap5
    have HFI := Lib.hid hfi; have HN5 := Lib.hid hn5
    clear hfi hn5
    have HRU := Lib.hid hru
    replace HB2 := Lib.hid (block_ext hb4 HB2.out); replace HOB := Lib.hid (block_ext hb4 HOB.out); replace HMB := Lib.hid (block_ext hb4 HMB.out)
    have HU4 := Lib.hid (HU3.out.ext hb4)
    have HE4 := Lib.hid (HE3.out.trans hb4)
    have c2 := Boxed.cell HMB.out
    have o0 : w4.cell? ⟨w.heap.size, 0, none⟩ = some (.int .i64 (S : Int)) := by rw [cell_of_row _ _ _ _ _ _ HOB.out]; rfl
    have o1 : w4.cell? ⟨w.heap.size, 1, none⟩ = some (.int .i64 (L : Int)) := by rw [cell_of_row _ _ _ _ _ _ HOB.out]; rfl
    have o2 : w4.cell? ⟨w.heap.size, 2, none⟩ = some (.slice a (ints ms).length cap) := by rw [cell_of_row _ _ _ _ _ _ HOB.out]; rfl
    have of2 := frozen_of_row _ _ 2 _ _ HOB.out
    have hsz4 : w.heap.size + 1 + 1 < w4.heap.size := (Array.getElem?_eq_some_iff.1 HB2.out).1
    clear hb4 hru c1 HRB
    go_wp2_with fail
    have hE5 : Ext w (w4.setCell ⟨w.heap.size, 2, none⟩ (.slice a' ys.length cap')) := ext_set HE4.out (Nat.le_refl _) _
    have hR5 : Reads (w4.setCell ⟨w.heap.size, 2, none⟩ (.slice a' ys.length cap')) (.slice a5 n5 cap5) (ints fi) := HRU.out.setOther o2 (fun k e => by cases e)
    have hB5 : (w4.setCell ⟨w.heap.size, 2, none⟩ (.slice a' ys.length cap')).heap[w.heap.size + 1 + 1]? = some (.cells #[.pointer none, .slice none 0 0, .map none] 93 (0, 0)) := by rw [set_other (by omega)]; exact HB2.out
    have hs5 : (w4.setCell ⟨w.heap.size, 2, none⟩ (.slice a' ys.length cap')).heap.size = w4.heap.size := by simp
    change Calls Try.prog 62 _ (((w4.setCell ⟨w.heap.size, 2, none⟩ (.slice a' ys.length cap')).alloc (.cells #[.int .i64 (S : Int), .int .i64 (L : Int), .slice a' ys.length cap', .slice none 0 0] 70)).alloc (.cells #[.pointer (some ⟨w4.heap.size, 0, none⟩), .slice a5 n5 cap5, .map none] 93)) _
    have hRB6 : RegAt (((w4.setCell ⟨w.heap.size, 2, none⟩ (.slice a' ys.length cap')).alloc (.cells #[.int .i64 (S : Int), .int .i64 (L : Int), .slice a' ys.length cap', .slice none 0 0] 70)).alloc (.cells #[.pointer (some ⟨w4.heap.size, 0, none⟩), .slice a5 n5 cap5, .map none] 93)) w4.heap.size S L (.slice a' ys.length cap') qs := by
      refine RegAt.ext (w := (w4.setCell ⟨w.heap.size, 2, none⟩ (.slice a' ys.length cap')).alloc (.cells #[.int .i64 (S : Int), .int .i64 (L : Int), .slice a' ys.length cap', .slice none 0 0] 70)) ⟨⟨?_, ?_, ?_⟩, ?_⟩ ((Ext.refl _).alloc _)
      · exact World.cell?_alloc_at _ _ _ _ hs5.symm
      · exact World.cell?_alloc_at _ _ _ _ hs5.symm
      · exact World.cell?_alloc_at _ _ _ _ hs5.symm
      · rw [← HYS.out]; exact HU.out.ext (hE5.alloc _)
    have hA6 := heap_alloc_new ((w4.setCell ⟨w.heap.size, 2, none⟩ (.slice a' ys.length cap')).alloc (.cells #[.int .i64 (S : Int), .int .i64 (L : Int), .slice a' ys.length cap', .slice none 0 0] 70)) (.cells #[.pointer (some ⟨w4.heap.size, 0, none⟩), .slice a5 n5 cap5, .map none] 93)
    rw [World.size_alloc, hs5] at hA6
    have hE6 : Ext (w4.setCell ⟨w.heap.size, 2, none⟩ (.slice a' ys.length cap')) (((w4.setCell ⟨w.heap.size, 2, none⟩ (.slice a' ys.length cap')).alloc (.cells #[.int .i64 (S : Int), .int .i64 (L : Int), .slice a' ys.length cap', .slice none 0 0] 70)).alloc (.cells #[.pointer (some ⟨w4.heap.size, 0, none⟩), .slice a5 n5 cap5, .map none] 93)) := ((Ext.refl _).alloc _).alloc _
    have hS6 : Side79 w (w4.heap.size + 1) (.pointer (some ⟨w4.heap.size, 0, none⟩)) (.slice a5 n5 cap5) (.map none) fi (((w4.setCell ⟨w.heap.size, 2, none⟩ (.slice a' ys.length cap')).alloc (.cells #[.int .i64 (S : Int), .int .i64 (L : Int), .slice a' ys.length cap', .slice none 0 0] 70)).alloc (.cells #[.pointer (some ⟨w4.heap.size, 0, none⟩), .slice a5 n5 cap5, .map none] 93)) :=
      ⟨hA6, block_ext hE6 hB5, hR5.ext hE6, Ext.trans hE5 hE6⟩
    have HS6 := Lib.hid hS6
    refine (clashing62 w4.heap.size S L qs _ _ HQ.out hRB6).mono ?_
    have hwB : w.heap.size < w4.heap.size + 1 := by omega
    clear hRB6 hA6 hE6 hS6 hE5 hR5 hB5 hs5 c2 o0 o1 o2 of2
    rintro e w6 ⟨mb, rfl, hmb, hCM, hb6⟩
    have hS6 : Side79 w (w4.heap.size + 1) (.pointer (some ⟨w4.heap.size, 0, none⟩)) (.slice a5 n5 cap5) (.map none) fi w6 := HS6.out.turn (grown_ext hb6 none) (fun r e => by cases e)
    have hmbB : w4.heap.size + 1 < mb := by simp at hmb; omega
    have HCM := Lib.hid hCM
    clear hCM hb6 hmb
    have cA2 : w6.cell? ⟨w4.heap.size + 1, 2, none⟩ = some (.map none) := by rw [cell_of_row _ _ _ _ _ _ hS6.1]; rfl
    have fA2 := frozen_of_row _ _ 2 _ _ hS6.1
    have HS7 := Lib.hid hS6
    clear hS6 HRU HS6
    obtain ⟨D, hown, hmi⟩ := HCM.out
    have hS8 : Side79 w (w4.heap.size + 1) (.pointer (some ⟨w4.heap.size, 0, none⟩)) (.slice a5 n5 cap5) (.map (some mb)) fi (w6.setCell ⟨w4.heap.size + 1, 2, none⟩ (.map (some mb))) := by
      refine ⟨?_, ?_, HS7.out.2.2.1.setOther cA2 (fun k e => by cases e), ext_set HS7.out.2.2.2 (by omega) _⟩
      · show (w6.heap.modify (w4.heap.size + 1) _)[w4.heap.size + 1]? = _
        rw [Array.getElem?_modify, HS7.out.1]; simp
      · rw [set_other (by omega)]; exact HS7.out.2.1
    have hown8 : (w6.setCell ⟨w4.heap.size + 1, 2, none⟩ (.map (some mb))).ownsMap Try.prog 76 (plainElem (H := Unit) Try.prog 3) mb 200 D := by
      obtain ⟨es, ck, hh, r⟩ := hown
      exact ⟨es, ck, by rw [set_other (by omega)]; exact hh, r⟩
    have HS8 := Lib.hid hS8; have HMI := Lib.hid (keepF_start hmi fi)
    clear hS8 hown hmi
    have hit : (w6.setCell ⟨w4.heap.size + 1, 2, none⟩ (.map (some mb))).heap.size = w6.heap.size := by simp
    have HIT := Lib.hid hit; clear hit
    go_wp2_with (at_range; refine wpList_range_own _ rfl _ 73 rfl 76 3 keyed76 Try.underlying73 _ mb 200 _ rfl hown8 ?_; rw [HIT.out]; intro w0 hrg0 hg0 hs0)
    have hS0 := HS8.out.turn hg0 (fun r e => by cases e)
    have hitB : w.heap.size ≤ w6.heap.size := by have := HS7.out.2.2.2.size; exact this
    have hmbW : w.heap.size ≤ mb := by omega
    clear hg0 hs0 HIT hown8 cA2 fA2
    go_frame
    go_loopw [10] (fun _ wr => ∃ (left : Lit → Bool) (cnt : Nat) (D' : DataW Unit), wr.ranges Try.prog 76 (plainElem (H := Unit) Try.prog 3) mb w6.heap.size 200 D' left cnt ∧ MapIs D' (keepF fi (clF qs L (pairsL qs.length)) left) ∧ Side79 w (w4.heap.size + 1) (.pointer (some ⟨w4.heap.size, 0, none⟩)) (.slice a5 n5 cap5) (.map (some mb)) fi wr)
      (fun _ wr => wr.rangeLeft mb w6.heap.size)
    case atStart => exact ⟨_, _, _, hrg0, HMI.out, hS0⟩
    case round =>
      obtain ⟨left, cnt, D', hrg, hM, hS⟩ := hrel
      have HM := Lib.hid hM; have HS := Lib.hid hS
      clear hM hS hS0 hrg0
      go_wp2_with (at_next; refine wpList_next_ranges _ rfl _ rfl 76 keyed76 (plainElem (H := Unit) Try.prog 3) (fun v : Value => v) (fun v : Value => v) (fun key kl hk => ⟨key, rfl⟩) (fun v _ _ => ⟨v, rfl⟩) mb w6.heap.size 200 _ _ _ rfl hrg ?_ ?_)
      · intro hc0 hl0
        have cA0 : wr.cell? ⟨w4.heap.size + 1, 0, none⟩ = some (.pointer (some ⟨w4.heap.size, 0, none⟩)) := by rw [cell_of_row _ _ _ _ _ _ HS.out.1]; rfl
        have cA1 : wr.cell? ⟨w4.heap.size + 1, 1, none⟩ = some (.slice a5 n5 cap5) := by rw [cell_of_row _ _ _ _ _ _ HS.out.1]; rfl
        have cA2 : wr.cell? ⟨w4.heap.size + 1, 2, none⟩ = some (.map (some mb)) := by rw [cell_of_row _ _ _ _ _ _ HS.out.1]; rfl
        have f0 := frozen_of_row _ _ 0 _ _ HS.out.2.1
        have f1 := frozen_of_row _ _ 1 _ _ HS.out.2.1
        have f2 := frozen_of_row _ _ 2 _ _ HS.out.2.1
        have c0 : wr.cell? ⟨w.heap.size + 1 + 1, 0, none⟩ = some (.pointer none) := by rw [cell_of_row _ _ _ _ _ _ HS.out.2.1]; rfl
        have c1 : wr.cell? ⟨w.heap.size + 1 + 1, 1, none⟩ = some (.slice none 0 0) := by rw [cell_of_row _ _ _ _ _ _ HS.out.2.1]; rfl
        have c2 : wr.cell? ⟨w.heap.size + 1 + 1, 2, none⟩ = some (.map none) := by rw [cell_of_row _ _ _ _ _ _ HS.out.2.1]; rfl
        have HE := Lib.hid (keepF_end HM.out hl0); have HG := Lib.hid hrg.owns
        clear hrg hl0 hc0
        go_wp2
        have hcl : ClMap wr mb 200 (askF ms L qs) := ⟨D', HG.out, by
          have := HE.out
          rw [HFI.out] at this
          exact this⟩
        have HCL := Lib.hid hcl
        refine bodyPost_ret (v := .tuple #[.agg #[.pointer (some ⟨w4.heap.size, 0, none⟩), .slice a5 n5 cap5, .map (some mb)], .int .i64 0]) ?_ rfl ⟨w4.heap.size, mb, .slice a5 n5 cap5, rfl, ?_, ?_, ?_⟩
        · exact results_cell93 Try.results79 _ _ (w.heap.size + 1 + 1) rfl (cells3_set HS.out.2.1 _ _ _)
        · refine ⟨?_, ⟨_, _, _, rfl, hcap5'⟩⟩
          rw [← HFI.out]; exact HS.out.2.2.1.set3 HS.out.2.1 (fun k e => by cases e) (fun k e => by cases e) (fun k e => by cases e)
        · refine HCL.out.block ?_
          rw [set_other (by omega), set_other (by omega), set_other (by omega)]
        · exact ext_set (ext_set (ext_set HS.out.2.2.2 (by omega) _) (by omega) _) (by omega) _
      · intro x c kl yd yp w2 cnt2 hkey hlk hv hat hrg2 hlt hg2 hs2 hen
        have hh := has_true_of_atKey hat
        obtain ⟨p, hp1, hp2, rfl⟩ := HM.out.2.2 kl hh
        obtain rfl : x = kv p := keyed76.inj hkey (kv_key ⟨hp1, hp2⟩)
        have hS2 := HS.out.turn hg2 (fun r e => by
          cases e
          obtain ⟨o, ho, hw⟩ := hrg.iter_walk
          exact ⟨hitB, o, ho, Obj.not_cells_of_walk hw⟩)
        have hle := hrg.left_eq
        obtain ⟨i, k⟩ := p
        have hS3 := hS2.turn (World.grownBy_alloc w2 (.cells #[.int .i64 (i : Int), .int .i64 (k : Int)] 76) none) (fun r e => by cases e)
        have hrg3 := hrg2.alloc (.cells #[.int .i64 (i : Int), .int .i64 (k : Int)] 76)
        have HS3 := Lib.hid hS3; have HRG3 := Lib.hid hrg3
        clear hS2 hS3 hrg hrg2 hat hh hv hkey hg2 hs2
        dsimp only [kv] at hen ⊢
        by_cases h1 : i ∈ fi
        · have H1 := Lib.hid (contains101_nat (.slice a5 n5 cap5) fi i true (by simp [h1]) _ HS3.out.2.2.1)
          by_cases h2 : k ∈ fi
          · have H2 := Lib.hid (contains101_nat (.slice a5 n5 cap5) fi k true (by simp [h2]) _ HS3.out.2.2.1)
            have hM3 := keepF_stay HM.out (p := (i, k)) ⟨hp1, hp2⟩ ⟨h1, h2⟩
            have HM3 := Lib.hid hM3
            clear hM3 h1 h2
            go_wp2_with fail
            refine H1.out.mono ?_
            rintro e w' ⟨rfl, rfl⟩
            go_wp2_with fail
            refine H2.out.mono ?_
            rintro e w' ⟨rfl, rfl⟩
            go_wp2
            go_roundw
            case rel => exact ⟨_, _, _, HRG3.out, HM3.out, HS3.out⟩
            case measure => rw [HRG3.out.left_eq, hle]; exact hlt
          · have H2 := Lib.hid (contains101_nat (.slice a5 n5 cap5) fi k false (by simp [h2]) _ HS3.out.2.2.1)
            have HM3 := Lib.hid (keepF_del HM.out (p := (i, k)) ⟨hp1, hp2⟩ (fun h => h2 h.2))
            have hA2 := HS3.out.1
            have cA2 : (w2.alloc (.cells #[.int .i64 (i : Int), .int .i64 (k : Int)] 76)).cell? ⟨w4.heap.size + 1, 2, none⟩ = some (.map (some mb)) := by rw [cell_of_row _ _ _ _ _ _ hA2]; rfl
            clear h1 h2 hA2
            go_wp2_with fail
            refine H1.out.mono ?_
            rintro e w' ⟨rfl, rfl⟩
            go_wp2_with fail
            refine H2.out.mono ?_
            rintro e w' ⟨rfl, rfl⟩
            go_wp2_with (at_delete; refine wpList_delete_ranges _ rfl _ _ 73 76 rfl 3 keyed76 Try.underlying73 _ mb w6.heap.size 200 _ _ _ rfl HRG3.out (kv (i, k)) (kp (i, k)) rfl (kv_key ⟨hp1, hp2⟩) ?_; intro w5 cnt5 hrg5 hc5 ht5)
            have hS5 := HS3.out.turn ht5.grown (fun r e => by
              cases e
              obtain ⟨es, ck, hh, -⟩ := HRG3.out.owns
              exact ⟨hmbW, _, hh, rfl⟩)
            go_frame
            go_roundw
            case rel => exact ⟨_, _, _, hrg5, (by rw [show (fun z : Lit => left z && !z.sameKey (kp (i, k)) && !z.sameKey (kp (i, k))) = (fun z => left z && !z.sameKey (kp (i, k))) from by funext z; rw [Bool.and_assoc, Bool.and_self]]; exact HM3.out), hS5⟩
            case measure => rw [hrg5.left_eq, hle]; omega
        · have H1 := Lib.hid (contains101_nat (.slice a5 n5 cap5) fi i false (by simp [h1]) _ HS3.out.2.2.1)
          have HM3 := Lib.hid (keepF_del HM.out (p := (i, k)) ⟨hp1, hp2⟩ (fun h => h1 h.1))
          have hA2 := HS3.out.1
          have cA2 : (w2.alloc (.cells #[.int .i64 (i : Int), .int .i64 (k : Int)] 76)).cell? ⟨w4.heap.size + 1, 2, none⟩ = some (.map (some mb)) := by rw [cell_of_row _ _ _ _ _ _ hA2]; rfl
          clear h1 hA2
          go_wp2_with fail
          refine H1.out.mono ?_
          rintro e w' ⟨rfl, rfl⟩
          go_wp2_with (at_delete; refine wpList_delete_ranges _ rfl _ _ 73 76 rfl 3 keyed76 Try.underlying73 _ mb w6.heap.size 200 _ _ _ rfl HRG3.out (kv (i, k)) (kp (i, k)) rfl (kv_key ⟨hp1, hp2⟩) ?_; intro w5 cnt5 hrg5 hc5 ht5)
          have hS5 := HS3.out.turn ht5.grown (fun r e => by
            cases e
            obtain ⟨es, ck, hh, -⟩ := HRG3.out.owns
            exact ⟨hmbW, _, hh, rfl⟩)
          go_frame
          go_roundw
          case rel => exact ⟨_, _, _, hrg5, (by rw [show (fun z : Lit => left z && !z.sameKey (kp (i, k)) && !z.sameKey (kp (i, k))) = (fun z => left z && !z.sameKey (kp (i, k))) from by funext z; rw [Bool.and_assoc, Bool.and_self]]; exact HM3.out), hS5⟩
          case measure => rw [hrg5.left_eq, hle]; omega
end Go.Proofs.Ytlgdnbpboonhdaa
namespace Go.Proofs.Ytlgdnbpboonhdaa
open Go.RowKit Go.Shelf Go.Maps
set_option linter.unusedVariables false
attribute [local go_sem] Oper.semAt_some
/-- A mark clashes with none of a family of marks before it. -/
def fitsB (g : Nat × Nat → Option Nat) (fam : List Nat) (i : Nat) : Bool := fam.all fun m => (g (m, i)).isNone
set_option maxRecDepth 100000 in
theorem fits103 (mb nn i : Nat) (p : Option Addr) (u v : Value) (fam : List Nat) (g : Nat × Nat → Option Nat) (w : World) (hm : ClMap w mb nn g) (hv : Reads w v (ints fam)) (hf : ∀ m ∈ fam, m < 1000) (hi : i < 1000) :
    Calls Try.prog 103 #[.agg #[.pointer p, u, .map (some mb)], v, .int .i64 (i : Int)] w fun e w' => e = .returned (.bool (fitsB g fam i)) ∧ Ext w w' := by
  obtain ⟨hl, a, cap, rfl⟩ := hv.shape
  rw [ints_length] at *
  have E0 := (Ext.refl w).alloc (.cells #[.pointer p, u, .map (some mb)] 93)
  have HE := Lib.hid E0; have HM := Lib.hid (hm.ext E0); have HR := Lib.hid (hv.ext E0); have HF := Lib.hid hf
  clear hm hv hf E0
  go_enter Try.func103, Try.ntmps103
  go_wp2
  go_loop [13] (fun j => ∃ k : Nat, k ≤ fam.length ∧ j = .int .i64 (k : Int) ∧ Hid (∀ k' m, k' < k → fam[k']? = some m → (g (m, i)).isNone = true)) (fun j => fam.length - (RowKit.intOf j).toNat)
  case atStart => exact ⟨0, Nat.zero_le _, rfl, fun k' m h => absurd h (Nat.not_lt_zero _)⟩
  case round =>
    obtain ⟨k, hk, rfl, hall⟩ := hrel
    by_cases hlt : k < fam.length
    · obtain ⟨m, hmk⟩ : ∃ m, fam[k]? = some m := ⟨_, List.getElem?_eq_getElem hlt⟩
      obtain ⟨b1, off, rfl, -, hcy⟩ := HR.out.atN hmk
      have hm1 := HF.out m (List.mem_of_getElem? hmk)
      obtain ⟨c, hlook, -⟩ := HM.out.look (m, i) ⟨hm1, hi⟩
      have hka : (0 : Int) ≤ (k : Int) := by omega
      have hkb : (k : Int) < (fam.length : Int) := by omega
      have HMK := Lib.hid hmk
      clear hmk
      dsimp only [kv] at hlook
      cases hg : (g (m, i)).isSome with
      | true =>
        rw [hg] at hlook
        have hno : fitsB g fam i = false := List.all_eq_false.2 ⟨m, List.mem_of_getElem? HMK.out, by cases h : g (m, i) <;> simp_all⟩
        have HNO := Lib.hid hno
        clear hno hg
        go_wp2
        go_ret
        rw [HNO.out]
        exact ⟨rfl, HE.out⟩
      | false =>
        rw [hg] at hlook
        have HG := Lib.hid hg
        clear hg
        go_wp2
        go_round
        case rel => exact ⟨k + 1, by omega, by go_num, fun k' m' h hm' => by
          rcases Nat.lt_succ_iff_lt_or_eq.1 h with h | h
          · exact hall.out k' m' h hm'
          · subst h
            rw [HMK.out] at hm'
            cases hm'
            simpa using HG.out⟩
        case measure => simp [RowKit.intOf]; omega
    · obtain rfl : k = fam.length := by omega
      have hyes : fitsB g fam i = true := List.all_eq_true.2 fun m hm => by
        obtain ⟨k', hk', rfl⟩ := List.getElem_of_mem hm
        exact hall.out k' _ hk' (List.getElem?_eq_getElem hk')
      have HY := Lib.hid hyes
      clear hyes
      go_wp2
      go_ret
      rw [HY.out]
      exact ⟨rfl, HE.out⟩
/-- A list of indexes is a family: each one is free, and clashes with none before it. -/
def famB (fi : List Nat) (g : Nat × Nat → Option Nat) (l : List Nat) : Bool := (List.range l.length).all fun k => decide (mAt l k ∈ fi) && fitsB g (l.take k) (mAt l k)
theorem Reads.take {W : World} {a : Option Addr} {n cap : Nat} {xs : List Int} (h : Reads W (.slice a n cap) xs) (k : Nat) (hk : k ≤ n) : Reads W (.slice a k cap) (xs.take k) := by
  obtain ⟨hl, a', cap', e, h⟩ := h
  cases e
  have hlen : (xs.take k).length = k := by simp; omega
  refine ⟨by omega, a, cap, by rw [hlen], ?_⟩
  rcases h with ⟨rfl, rfl⟩ | ⟨b, off, rfl, hc⟩
  · exact .inl ⟨rfl, by simp⟩
  · refine .inr ⟨b, off, rfl, fun i hi => ?_⟩
    rw [hlen] at hi
    rw [hc i (by omega), List.getElem?_take_of_lt hi]
set_option maxRecDepth 100000 in
set_option maxHeartbeats 1000000 in
theorem isFamily86 (mb nn : Nat) (p : Option Addr) (u v : Value) (fi l : List Nat) (g : Nat × Nat → Option Nat) (w : World) (hm : ClMap w mb nn g) (hu : Reads w u (ints fi)) (hv : Reads w v (ints l)) (hcap : CapOk v) (hf : ∀ m ∈ l, m < 1000) :
    Calls Try.prog 86 #[.agg #[.pointer p, u, .map (some mb)], v] w fun e w' => e = .returned (.bool (famB fi g l)) ∧ Ext w w' := by
  obtain ⟨hl, a, cap, rfl⟩ := hv.shape
  obtain ⟨hl2, a2, cap2, rfl⟩ := hu.shape
  have hcap2 := hcap.le
  clear hcap
  simp only [ints_length] at *
  have E0 := (Ext.refl w).alloc (.cells #[.pointer p, .slice a2 fi.length cap2, .map (some mb)] 93)
  have HE := Lib.hid E0; have HM := Lib.hid (hm.ext E0); have HR := Lib.hid (hv.ext E0); have HU := Lib.hid (hu.ext E0); have HF := Lib.hid hf
  have hB := heap_alloc_new w (.cells #[.pointer p, .slice a2 fi.length cap2, .map (some mb)] 93)
  have HB := Lib.hid hB
  clear hm hv hf E0 hu hB
  have hmix : Try.prog.follows .mixedOrders = true := by kernel_rfl
  go_enter Try.func86, Try.ntmps86
  go_wp2
  generalize w.alloc (.cells #[.pointer p, .slice a2 fi.length cap2, .map (some mb)] 93) = w1 at *
  go_loopw [9] (fun j wr => ∃ k : Nat, k ≤ l.length ∧ j = .int .i64 (k : Int) ∧ Hid (∀ k', k' < k → (decide (mAt l k' ∈ fi) && fitsB g (l.take k') (mAt l k')) = true) ∧ Hid (Ext w1 wr)) (fun j _ => l.length - (RowKit.intOf j).toNat)
  case atStart => exact ⟨0, Nat.zero_le _, rfl, fun k' h => absurd h (Nat.not_lt_zero _), Ext.refl _⟩
  case round =>
    obtain ⟨k, hk, rfl, hall, hE⟩ := hrel
    by_cases hlt : k < l.length
    · have hmk : l[k]? = some (mAt l k) := by simp [mAt, hlt]
      obtain ⟨b1, off, rfl, -, hcy0⟩ := HR.out.atN hmk
      have hcy := cell_ext hE.out hcy0
      have hm1 := HF.out _ (List.mem_of_getElem? hmk)
      have hka : (0 : Int) ≤ (k : Int) := by omega
      have hkb : (k : Int) < (l.length : Int) := by omega
      have hkc : (k : Int) ≤ (cap : Int) := by omega
      have hkn : (k : Int).toNat = k := by omega
      have hBr := block_ext hE.out HB.out
      have c0 : wr.cell? ⟨w.heap.size, 0, none⟩ = some (.pointer p) := by rw [cell_of_row _ _ _ _ _ _ hBr]; rfl
      have c1 : wr.cell? ⟨w.heap.size, 1, none⟩ = some (.slice a2 fi.length cap2) := by rw [cell_of_row _ _ _ _ _ _ hBr]; rfl
      have c2 : wr.cell? ⟨w.heap.size, 2, none⟩ = some (.map (some mb)) := by rw [cell_of_row _ _ _ _ _ _ hBr]; rfl
      clear hBr hcy0 hmk
      by_cases h1 : mAt l k ∈ fi
      · have H101 := fun X (hX : Ext w1 X) => contains101_nat (.slice a2 fi.length cap2) fi (mAt l k) true (by simp [h1]) X (HU.out.ext hX)
        obtain ⟨fb, hfb⟩ : ∃ fb, fb = fitsB g (l.take k) (mAt l k) := ⟨_, rfl⟩
        have H103 := fun X (hX : Ext w1 X) => fits103 mb nn (mAt l k) p (.slice a2 fi.length cap2) (.slice (some ⟨b1, off, none⟩) k cap) (l.take k) g X (HM.out.ext hX) (by
          have := (HR.out.ext hX).take k (by omega)
          rwa [show (ints l).take k = ints (l.take k) from by unfold ints; rw [List.map_take]] at this) (fun m hm => HF.out m (List.mem_of_mem_take hm)) hm1
        rw [← hfb] at H103
        have HH101 := Lib.hid H101; have HH103 := Lib.hid H103; have HFB := Lib.hid hfb; have H1 := Lib.hid h1
        clear H101 H103 hfb h1
        go_wp2
        go_region_held3 (fun X => X.cell? ⟨w.heap.size, 0, none⟩ = some (.pointer p) ∧ X.cell? ⟨w.heap.size, 1, none⟩ = some (.slice a2 fi.length cap2) ∧ X.cell? ⟨w.heap.size, 2, none⟩ = some (.map (some mb)) ∧ Hid (Ext w1 X))
          (first | assumption | exact ⟨c0, c1, c2, hE⟩ | exact ⟨c0, c1, c2, Ext.drew hE.out⟩ | exact ⟨cell_ext (Ext.ofDrew hb) c0, cell_ext (Ext.ofDrew hb) c1, cell_ext (Ext.ofDrew hb) c2, Ext.trans hE.out (Ext.ofDrew hb)⟩)
          (first | (go_at_call 101; refine (HH101.out _ (by first | exact hE.out | exact Ext.drew hE.out)).mono ?_; rintro e w2 ⟨rfl, rfl⟩)
                  | (go_at_call 103; refine (HH103.out _ (by first | exact hE.out | exact Ext.drew hE.out)).mono ?_; rintro e w2 ⟨rfl, hb⟩))
        all_goals
          have HE2 := Lib.hid (Ext.trans hE.out (Ext.ofDrew hb))
          clear hb
          cases fb with
          | true =>
            go_wp2
            go_roundw
            case rel => exact ⟨k + 1, by omega, by go_num, fun k' h => by
              rcases Nat.lt_succ_iff_lt_or_eq.1 h with h | h
              · exact hall.out k' h
              · subst h
                rw [← HFB.out]; simp [H1.out], HE2.out⟩
            case measure => simp [RowKit.intOf]; omega
          | false =>
            have hno : famB fi g l = false := List.all_eq_false.2 ⟨k, List.mem_range.2 hlt, by rw [← HFB.out]; simp⟩
            have HNO := Lib.hid hno; clear hno
            go_wp2
            go_ret
            rw [HNO.out]
            exact ⟨rfl, HE.out.trans HE2.out⟩
      · have H101 := contains101_nat (.slice a2 fi.length cap2) fi (mAt l k) false (by simp [h1])
        have HH := Lib.hid (fun X (hX : Ext w1 X) => (H101 X (HU.out.ext hX)).mono fun e w' h => (⟨h.1, h.2.symm⟩ : _ ∧ w' = X))
        have hno : famB fi g l = false := List.all_eq_false.2 ⟨k, List.mem_range.2 hlt, by simp [h1]⟩
        have HNO := Lib.hid hno; clear hno H101 h1
        have hEE := hE.out
        go_wp2
        go_quiet ((go_at_call 101; refine Calls.quiet_of_same (HH.out _ ?_); first | exact hEE | exact Ext.drew hEE | exact Ext.drewN hEE _))
        go_wp2
        go_ret
        rw [HNO.out]
        exact ⟨rfl, HE.out.trans (hE.out.drewN _)⟩
    · obtain rfl : k = l.length := by omega
      have hyes : famB fi g l = true := List.all_eq_true.2 fun k' hk' => hall.out k' (List.mem_range.1 hk')
      have HY := Lib.hid hyes; clear hyes
      go_wp2
      go_ret
      rw [HY.out]
      exact ⟨rfl, HE.out.trans hE.out⟩
end Go.Proofs.Ytlgdnbpboonhdaa
