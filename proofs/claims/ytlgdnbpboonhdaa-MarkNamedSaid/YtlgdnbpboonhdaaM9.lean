/- Contracts of open, canBe, and Owners. -/
import Derived.Test.YtlgdnbpboonhdaaV
import Derived.Deep.OwnRows
import Derived.Deep.RegionHeld3
namespace Go.Proofs.Ytlgdnbpboonhdaa
open Go.RowKit
set_option linter.unusedVariables false
theorem Try.info4 : (Try.prog.info? 4).map (fun i => (i.zero, i.size, i.bytes)) = some (some (.bool false), 1, 1) := by kernel_rfl
theorem make68 (n : Nat) (h : n ≤ 100000) (w : World) : (Instr.makeSlice 68 (.int .i64 (n : Int)) (.int .i64 (n : Int))).run Try.prog w = .ok (.slice (some ⟨w.heap.size, 0, none⟩) n n) (w.alloc (.cells (madeCells #[.bool false] n) 4)) :=
  run_make_row' 68 4 (.bool false) 1 Try.underlying68 Try.info4 rfl .i64 .i64 n (by omega) (by omega) w
theorem open_ok (S L : Nat) (ms : List Nat) (v u : Value) (os : List Int) (w : World) (hv : Valid S L ms) (hr : Reads w v (ints ms)) (hu : Reads w u os) (ho : inR 0 ((ms.length : Int) - 1) os = true) :
    Calls Try.prog 56 #[.agg #[.int .i64 (S : Int), .int .i64 (L : Int), v], u] w fun e w' => ∃ b bt, e = .returned (.tuple #[.pointer (some ⟨b, 0, none⟩), .int .i64 0]) ∧ w.heap.size ≤ b ∧ w.heap.size ≤ bt ∧ b ≠ bt ∧
      OffAt w' b (.int .i64 (S : Int)) (.int .i64 (L : Int)) v ∧ w'.cell? ⟨b, 3, none⟩ = some (.slice (some ⟨bt, 0, none⟩) (full S + 1) (full S + 1)) ∧ w'.rowIs bt 4 (full S + 1) (fun _ => .bool false) ∧ Ext w w' := by
  obtain ⟨hl, a, cap, rfl⟩ := hr.shape
  rw [ints_length] at hr hl ⊢
  have hc := chk_ok hv
  have hS : 1 ≤ (S : Int) ∧ (S : Int) ≤ 10 := by have := hv.1; have := hv.2.1; omega
  have hF := full_lt S hv.2.1
  have HR := Lib.hid hr; have HU := Lib.hid hu; have HC := Lib.hid hc; clear hr hu hc
  have P0 := Lib.hid (OffAt.new w (.int .i64 S) (.int .i64 L) (.slice a ms.length cap) 24)
  have E0 := Lib.hid ((Ext.refl w).alloc (.cells #[.int .i64 S, .int .i64 L, .slice a ms.length cap] 24))
  have HO := Lib.hid ho; clear ho
  go_enter Try.func56, Try.ntmps56
  go_wp2_with fail
  refine (check21 _ _ _ (ints ms) _ (HR.out.ext E0.out)).mono ?_
  rintro e w' ⟨rfl, hb⟩
  rw [HC.out]
  obtain ⟨g1, g2, g3⟩ := P0.out.ext hb
  have HB := Lib.hid (E0.out.trans hb); clear hb
  have hx : ((ms.length : Int) - 1) = (ms.length : Int) - 1 := rfl
  go_wp2_with fail
  refine (within_any _ _ _ os _ (HU.out.ext HB.out)).mono ?_
  rintro e w' ⟨rfl, rfl⟩
  rw [HO.out]
  go_wp2
  have hmk := make68 (full S + 1) (by omega)
  rw [Int.natCast_add, Int.natCast_one] at hmk
  have hwr : IntKind.i64.wrap ((full S : Int) + 1) = (full S : Int) + 1 := by have := wrapi64 (full S + 1) (by omega); rw [Int.natCast_add, Int.natCast_one] at this; exact this
  have hS1 := hv.1
  have hS2 := hv.2.1
  go_region_held3 (fun X => X.cell? ⟨w.heap.size, 0, none⟩ = some (.int .i64 S) ∧ X.cell? ⟨w.heap.size, 1, none⟩ = some (.int .i64 L) ∧ X.cell? ⟨w.heap.size, 2, none⟩ = some (.slice a ms.length cap))
    (first | exact ⟨g1, g2, g3⟩ | exact ⟨cell_ext (Ext.ofDrew hb) g1, cell_ext (Ext.ofDrew hb) g2, cell_ext (Ext.ofDrew hb) g3⟩ | exact ⟨cell_ext (Ext.alloc (Ext.ofDrew hb) _) g1, cell_ext (Ext.alloc (Ext.ofDrew hb) _) g2, cell_ext (Ext.alloc (Ext.ofDrew hb) _) g3⟩ | exact ⟨cell_ext (Ext.alloc (Ext.alloc (Ext.ofDrew hb) _) _) g1, cell_ext (Ext.alloc (Ext.alloc (Ext.ofDrew hb) _) _) g2, cell_ext (Ext.alloc (Ext.alloc (Ext.ofDrew hb) _) _) g3⟩ | assumption)
    (first | (go_at_call 58; refine (allStrokes_any _ _ _ _ hS1 hS2).mono ?_; rintro e w2 ⟨rfl, hb⟩))
  all_goals
    have HB2 := Lib.hid (HB.out.trans (Ext.ofDrew hb)); clear hb
    go_wp2
    go_ret2
    refine ⟨w2.heap.size + 1, w2.heap.size, rfl, ?_, HB2.out.size, by omega, ⟨?_, ?_, ?_⟩, ?_, ?_, (HB2.out.alloc _).alloc _⟩
    · have := HB2.out.size; omega
    · exact World.cell?_alloc_at _ _ _ _ (by simp)
    · exact World.cell?_alloc_at _ _ _ _ (by simp)
    · exact World.cell?_alloc_at _ _ _ _ (by simp)
    · exact World.cell?_alloc_at _ _ _ _ (by simp)
    · exact (World.rowIs_made w2 (.bool false) (full S + 1) 4).alloc _
theorem open_arg (S L : Nat) (ms : List Nat) (v u : Value) (os : List Int) (w : World) (hv : Valid S L ms) (hr : Reads w v (ints ms)) (hu : Reads w u os) (ho : inR 0 ((ms.length : Int) - 1) os = false) :
    Calls Try.prog 56 #[.agg #[.int .i64 (S : Int), .int .i64 (L : Int), v], u] w fun e w' => e = .returned (.tuple #[.pointer none, .int .i64 2]) ∧ Ext w w' := by
  obtain ⟨hl, a, cap, rfl⟩ := hr.shape
  rw [ints_length] at hr hl ⊢
  have hc := chk_ok hv
  have HR := Lib.hid hr; have HU := Lib.hid hu; have HC := Lib.hid hc; clear hr hu hc
  have P0 := Lib.hid (OffAt.new w (.int .i64 S) (.int .i64 L) (.slice a ms.length cap) 24)
  have E0 := Lib.hid ((Ext.refl w).alloc (.cells #[.int .i64 S, .int .i64 L, .slice a ms.length cap] 24))
  have HO := Lib.hid ho; clear ho
  go_enter Try.func56, Try.ntmps56
  go_wp2_with fail
  refine (check21 _ _ _ (ints ms) _ (HR.out.ext E0.out)).mono ?_
  rintro e w' ⟨rfl, hb⟩
  rw [HC.out]
  obtain ⟨g1, g2, g3⟩ := P0.out.ext hb
  have HB := Lib.hid (E0.out.trans hb); clear hb
  go_wp2_with fail
  refine (within_any _ _ _ os _ (HU.out.ext HB.out)).mono ?_
  rintro e w' ⟨rfl, rfl⟩
  rw [HO.out]
  go_wp2
  go_ret2
  exact ⟨rfl, HB.out⟩
theorem open_err (S L : Int) (xs : List Int) (v u : Value) (w : World) (hr : Reads w v xs) (hc : chk S L xs ≠ 0) :
    Calls Try.prog 56 #[.agg #[.int .i64 S, .int .i64 L, v], u] w fun e w' => e = .returned (.tuple #[.pointer none, .int .i64 (chk S L xs)]) ∧ Ext w w' := by
  obtain ⟨hl, a, cap, rfl⟩ := hr.shape
  have E0 := Lib.hid ((Ext.refl w).alloc (.cells #[.int .i64 S, .int .i64 L, .slice a xs.length cap] 24))
  have HR := Lib.hid hr; clear hr
  obtain ⟨c, hc'⟩ : ∃ c, c = chk S L xs := ⟨_, rfl⟩
  rw [← hc'] at hc ⊢
  have HC := Lib.hid hc'; clear hc'
  have hd : (c != 0) = true := by simpa using hc
  clear hc
  go_enter Try.func56, Try.ntmps56
  go_wp2_with fail
  refine (check21 _ _ _ xs _ (HR.out.ext E0.out)).mono ?_
  rintro e w' ⟨rfl, hb⟩
  have HB := Lib.hid hb; clear hb
  rw [← HC.out]
  go_wp2
  go_ret2
  exact ⟨rfl, E0.out.trans HB.out⟩
/-- canBe, over a register whose marks are those. -/
theorem canBe61 (b L x i m : Nat) (ms : List Nat) (v : Value) (w : World) (hx : x < 1024) (hm : ms[i]? = some m) (hm2 : m < 1024) (h1 : w.cell? ⟨b, 1, none⟩ = some (.int .i64 (L : Int))) (h2 : w.cell? ⟨b, 2, none⟩ = some v) (hr : Reads w v (ints ms)) :
    Calls Try.prog 61 #[.pointer (some ⟨b, 0, none⟩), .int .i64 (x : Int), .int .i64 (i : Int)] w fun e w' => e = .returned (.bool (cb L x m)) ∧ Ext w w' := by
  obtain ⟨hl, a, cap, rfl⟩ := hr.shape
  have hi : i < ms.length := (List.getElem?_eq_some_iff.1 hm).1
  obtain ⟨b1, off, y, rfl, hy, hcy⟩ := hr.at (k := i) (by rw [ints_length]; exact hi)
  obtain ⟨m', hm', rfl⟩ := ints_get hy
  rw [hm] at hm'; cases hm'
  rw [ints_length] at hl h2
  have hka : (0 : Int) ≤ (i : Int) := by omega
  have hkb : (i : Int) < (ms.length : Int) := by omega
  clear hr hy hm
  have h88 : ∀ W, Calls Try.prog 88 #[.int .i64 (m : Int), .int .i64 (x : Int)] W fun e w' => e = .returned (.bool (sub x m)) ∧ w' = W := fun W => (contains_any m x hm2 hx W).mono fun e w' ⟨h1, h2⟩ => ⟨h1, h2.symm⟩
  have h89 : ∀ W, Calls Try.prog 89 #[.int .i64 (dif m x : Int)] W fun e w' => e = .returned (.int .i64 (pc (dif m x) : Int)) ∧ w' = W := fun W => (count_any (dif m x) (dif_lt m x hm2) W).mono fun e w' ⟨h1, h2⟩ => ⟨h1, h2.symm⟩
  have hdn := andNot_nat m x hm2 hx
  cases hs : sub x m
  · rw [cb_sub _ _ _ hs]
    rw [hs] at h88
    have H88 := Lib.hid h88; clear h88 hs h89 hdn
    go_enter Try.func61, Try.ntmps61
    go_wp2
    go_quiet ((go_at_call 88; exact Calls.quiet_of_same (H88.out _)))
    go_wp2
    go_ret
    exact ⟨rfl, (Ext.refl _).drewN _⟩
  · rw [cb_yes _ _ _ hs, ← dif_of_sub _ _ hs hm2]
    rw [hs] at h88
    have H88 := Lib.hid h88; have H89 := Lib.hid h89; clear h88 hs h89
    go_enter Try.func61, Try.ntmps61
    go_wp2
    go_quiet (first | (go_at_call 88; exact Calls.quiet_of_same (H88.out _)) | (go_at_call 89; exact Calls.quiet_of_same (H89.out _)))
    go_wp2
    go_ret
    refine ⟨ret_bool ?_, (Ext.refl _).drewN _⟩
    rw [Bool.eq_iff_iff]; simp
/-- The numbers from lo on, so many, that are meant. -/
def pickL (lo n : Nat) (p : Nat → Bool) : List Nat := (List.range' lo n).filter p
theorem pickL_succ (lo n : Nat) (p : Nat → Bool) : pickL lo (n + 1) p = pickL lo n p ++ (if p (lo + n) then [lo + n] else []) := by
  unfold pickL
  rw [List.range'_concat, List.filter_append]
  simp [List.filter_cons]
theorem pickL_len (lo n : Nat) (p : Nat → Bool) : (pickL lo n p).length ≤ n := by
  unfold pickL
  have := List.length_filter_le p (List.range' lo n)
  simpa using this
set_option maxRecDepth 100000 in
theorem pick59 (g : FuncId) (c1 c2 : Array Value) (lo n : Nat) (hi : Int) (p : Nat → Bool) (w : World) (hn : hi = (lo : Int) + n - 1) (hlo : lo ≤ 2000) (hn2 : n ≤ 2000)
    (hent : ∀ args W, (callFunc g args).run Try.prog W = .ok (.enter g args) W)
    (hg : ∀ i W, i < n → Ext w W → Calls Try.prog g (c1.push (.int .i64 ((lo + i : Nat) : Int)) ++ c2) W fun e w' => e = .returned (.bool (p (lo + i))) ∧ Ext W w') :
    Calls Try.prog 59 #[.int .i64 (lo : Int), .int .i64 hi, .func (.func g) c1 c2] w fun e w' => ∃ v, e = .returned v ∧ Reads w' v (ints (pickL lo n p)) ∧ Ext w w' := by
  have HG := Lib.hid hg; have HN := Lib.hid hn; clear hg hn
  go_enter Try.func59, Try.ntmps59
  go_wp2
  go_loopw [7, 8] (fun v i wr => ∃ j : Nat, lo ≤ j ∧ j ≤ lo + n ∧ i = .int .i64 (j : Int) ∧ Hid (Ext w wr) ∧ Hid (Owns w.heap.size wr v (ints (pickL lo (j - lo) p)))) (fun v i wr => lo + n - (intOf i).toNat)
  case atStart => exact ⟨lo, Nat.le_refl _, by omega, rfl, Ext.refl _, (by rw [Nat.sub_self]; exact Owns.nil _ _ : Owns _ _ _ _)⟩
  case round =>
    obtain ⟨j, hj, hj2, rfl, hE, hO⟩ := hrel
    by_cases hlt : j < lo + n
    · have h1 : (j : Int) ≤ hi := by have := HN.out; omega
      have hc := HG.out (j - lo) wr (by omega) hE.out
      rw [show lo + (j - lo) = j by omega] at hc
      have HC := Lib.hid hc; clear hc
      go_wp2_with fail
      refine HC.out.mono ?_
      rintro e w' ⟨rfl, hb⟩
      have hO' := ownsI_ext hO.out hb
      have HE' := Lib.hid (hE.out.trans hb); clear hb
      have hpl : (pickL lo (j - lo) p).length ≤ j - lo := pickL_len _ _ _
      have hps := pickL_succ lo (j - lo) p
      rw [show lo + (j - lo) = j by omega, show (j - lo) + 1 = j + 1 - lo by omega] at hps
      have HPS := Lib.hid hps; have HO' := Lib.hid hO'; clear hps hO'
      cases hpj : p j
      · rw [hpj] at HPS
        go_wp2
        go_roundw
        case rel => exact ⟨j + 1, by omega, by omega, by go_num, HE'.out, (by rw [HPS.out]; simpa using HO'.out : Owns _ _ _ _)⟩
        case measure => simp [intOf]; omega
      · rw [hpj] at HPS
        go_wp2_with (at_builtin; refine append1 w' w.heap.size _ _ _ _ _ rfl rfl rfl HO'.out HE'.out.size (by rw [ints_length]; omega) rfl ?_; intro v' w3 hO3 hB3)
        have HO3 := Lib.hid hO3; have HB3 := Lib.hid hB3; clear hO3 hB3
        go_wp2
        go_roundw
        case rel => exact ⟨j + 1, by omega, by omega, by go_num, Below.trans HE'.out HB3.out, (by rw [HPS.out]; simpa [ints] using HO3.out : Owns _ _ _ _)⟩
        case measure => simp [intOf]; omega
    · have h1 : ¬ (j : Int) ≤ hi := by have := HN.out; omega
      go_wp2
      go_ret
      obtain rfl : j = lo + n := by omega
      rw [Nat.add_sub_cancel_left] at hO
      exact ⟨_, rfl, hO.out.reads (by rw [ints_length]; have := pickL_len lo n p; omega), hE.out⟩
end Go.Proofs.Ytlgdnbpboonhdaa
