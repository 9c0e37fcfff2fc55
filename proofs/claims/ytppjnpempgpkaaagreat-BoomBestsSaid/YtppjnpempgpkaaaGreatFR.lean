/- Free and within, by their contracts. -/
import Derived.Test.YtppjnpempgpkaaaGreatSO
import Derived.Test.YtppjnpempgpkaaaGreatRA
import Derived.Test.YtppjnpempgpkaaaGreatR2
import Derived.Test.YtppjnpempgpkaaaGreatH7
import Derived.Test.YtppjnpempgpkaaaGreatH6
import Derived.Test.YtppjnpempgpkaaaGreatN3
import Derived.Test.YtppjnpempgpkaaaGreatK1
namespace Go.Proofs.YtppjnpempgpkaaaGreat
open Go.RowKit Go.Shelf
set_option linter.unusedVariables false
set_option linter.unusedSimpArgs false
attribute [local go_sem] Oper.semAt_some

def freN (wn kn : List Nat) (k : Nat) : List Nat := (List.range k).filter fun i => !memL wn i && !memL kn i
theorem freN_succ (wn kn : List Nat) (k : Nat) : freN wn kn (k + 1) = freN wn kn k ++ if (!memL wn k && !memL kn k) = true then [k] else [] := by
  unfold freN
  rw [List.range_succ, List.filter_append, List.filter_cons, List.filter_nil]
theorem freN_len (wn kn : List Nat) (k : Nat) : (freN wn kn k).length ≤ k := by
  unfold freN
  have := List.length_filter_le (fun i => !memL wn i && !memL kn i) (List.range k)
  rwa [List.length_range] at this
set_option maxRecDepth 100000 in
set_option maxHeartbeats 4000000 in
theorem rfree_c (W H nw cw nk ck : Nat) (aw ak : Option Addr) (wn kn : List Nat) (hv : VP W H wn kn) (w : World) (hw : Reads w (.slice aw nw cw) (natI wn)) (hk : Reads w (.slice ak nk ck) (natI kn)) :
    Calls Tryz.prog 32 #[.agg #[.int .i64 (W : Int), .int .i64 (H : Int), .slice aw nw cw, .slice ak nk ck]] w fun e w' => ∃ a c, e = .returned (.slice a (freN wn kn (W * H)).length c) ∧ Reads w' (.slice a (freN wn kn (W * H)).length c) (natI (freN wn kn (W * H))) ∧ Ext w w' := by
  have hW8 := hv.w8; have hH8 := hv.h8
  have HCE := Lib.hid (fun (X : World) => rcells_c W H nw cw nk ck aw ak hW8 hH8 X)
  have h64 := hv.n64
  obtain ⟨m, hm⟩ : ∃ m, m = W * H := ⟨_, rfl⟩
  rw [← hm] at HCE h64 ⊢
  have HWL := Lib.hid hw; have HKL := Lib.hid hk
  clear hw hk hm hW8 hH8
  obtain ⟨w1, hw1⟩ : ∃ w1, w1 = w.alloc (.cells #[.int .i64 (W : Int), .int .i64 (H : Int), .slice aw nw cw, .slice ak nk ck] 24) := ⟨_, rfl⟩
  have E0 := Lib.hid (show Ext w w1 from by rw [hw1]; exact (Ext.refl w).alloc _)
  have B0 := Lib.hid (show w1.heap[w.heap.size]? = some (.cells #[.int .i64 (W : Int), .int .i64 (H : Int), .slice aw nw cw, .slice ak nk ck] 24 (0, 0)) from by rw [hw1]; exact heap_alloc_new w _)
  go_enter Tryz.func32, Tryz.ntmps32
  go_upto_region 2 with fail
  rw [← hw1]
  clear hw1
  go_wp2
  go_loopw [3, 4] (fun u i wr => ∃ k : Nat, k ≤ m ∧ i = .int .i64 (k : Int) ∧ Hid (OwnI 3 (w.heap.size + 1) wr u (natI (freN wn kn k))) ∧ Hid (wr.heap[w.heap.size]? = some (.cells #[.int .i64 (W : Int), .int .i64 (H : Int), .slice aw nw cw, .slice ak nk ck] 24 (0, 0))) ∧ Hid (Ext w wr)) (fun u i wr => m - (intOf i).toNat)
  case atStart => exact ⟨0, Nat.zero_le _, rfl, Lib.hid (OwnI.nil _ _ _), B0, E0⟩
  case round =>
    clear B0 E0
    obtain ⟨k, hk, rfl, hO, hp, hE⟩ := hrel
    obtain ⟨z0, z1, z2, z3⟩ := cells4 hp.out
    go_wp2_with fail
    refine (HCE.out _).mono ?_
    rintro e Y1 ⟨rfl, h2⟩
    have HE := Lib.hid (hE.out.trans h2); have HP := Lib.hid (block_ext h2 hp.out); have HO := Lib.hid (hO.out.ext h2)
    clear h2 z0 z1 z2 z3 hO hp hE
    obtain ⟨z0, z1, z2, z3⟩ := cells4 HP.out
    by_cases hlt : k < m
    · have HQ1 := Lib.hid (has_c _ (natI wn) (k : Int) Y1 (HWL.out.ext HE.out))
      have HQ2 := Lib.hid (has_c _ (natI kn) (k : Int) Y1 (HKL.out.ext HE.out))
      rw [hasB_nat] at HQ1 HQ2
      have HSU := Lib.hid (freN_succ wn kn k)
      unfold memL at HSU
      generalize decide (k ∈ wn) = q1 at *
      generalize decide (k ∈ kn) = q2 at *
      have hka : (0 : Int) ≤ (k : Int) := by omega
      have hkb : (k : Int) < (m : Int) := by omega
      have hkt : (k : Int).toNat = k := by omega
      have HLEN := Lib.hid (show (natI (freN wn kn k)).length ≤ 20000 from by rw [natI_len]; have := freN_len wn kn k; omega)
      go_wp2_with fail
      refine Calls.mono HQ1.out ?_
      intro e Y h1; obtain ⟨h1, hY⟩ := h1; subst h1; subst hY
      cases q1
      · skip
        go_wp2_with fail
        refine Calls.mono HQ2.out ?_
        intro e Y h1; obtain ⟨h1, hY⟩ := h1; subst h1; subst hY
        cases q2
        · have HS3 := Lib.hid (show natI (freN wn kn (k + 1)) = natI (freN wn kn k) ++ [(k : Int)] from by rw [HSU.out]; unfold natI; simp)
          obtain ⟨W3, hW3⟩ : ∃ W3, W3 = Y1.alloc (.cells #[.int .i64 (k : Int)] 3) := ⟨_, rfl⟩
          have hE3 : Ext Y1 W3 := by rw [hW3]; exact (Ext.refl _).alloc _
          have hz3 : W3.cell? ⟨Y1.heap.size, 0, none⟩ = some (.int .i64 (k : Int)) := cell_of_blk (by rw [hW3]; exact heap_alloc_new Y1 _) rfl
          obtain ⟨v4, X4, hrun, ho4, hg4⟩ := appendI_run (HO.out.ext hE3) (by have := lt_of_blk HP.out; have := hE3.size; omega) HLEN.out (k : Int) Y1.heap.size hz3 22
          have hob := own_from (HO.out.ext hE3)
          have HO4 := Lib.hid (show OwnI 3 (w.heap.size + 1) X4 v4 (natI (freN wn kn (k + 1))) from by rw [HS3.out]; exact ho4)
          have HB4 := Lib.hid ((hg4.block w.heap.size (lt_of_blk (block_ext hE3 HP.out)) (fun e => by have := hob _ e.symm; omega)).trans (block_ext hE3 HP.out))
          have HE4 := Lib.hid (show Ext w X4 from grown_any (HE.out.trans hE3) hg4 (fun g e => by have := hob g e; omega))
          rw [hW3] at hrun
          clear hE3 hz3 ho4 hg4 hob hW3
          go_wp2_with (first | (refine wpList_append_run rfl _ _ 22 rfl rfl rfl hrun ?_) | fail)
          go_roundw
          case rel => exact ⟨k + 1, by omega, by go_num, HO4, HB4, HE4⟩
          case measure => simp [intOf]; omega
        · have HS2 := Lib.hid (show natI (freN wn kn (k + 1)) = natI (freN wn kn k) from by rw [HSU.out]; simp)
          go_wp2
          go_roundw
          case rel => exact ⟨k + 1, by omega, by go_num, by rw [HS2.out]; exact HO, HP, HE⟩
          case measure => simp [intOf]; omega
      · have HS2 := Lib.hid (show natI (freN wn kn (k + 1)) = natI (freN wn kn k) from by rw [HSU.out]; simp)
        go_wp2
        go_roundw
        case rel => exact ⟨k + 1, by omega, by go_num, by rw [HS2.out]; exact HO, HP, HE⟩
        case measure => simp [intOf]; omega
    · have hkm : k = m := by omega
      subst k
      have hrd := HO.out.reads (by rw [natI_len]; have := freN_len wn kn m; omega)
      obtain ⟨_, a, c, rfl⟩ := hrd.shape
      rw [natI_len] at hrd HO ⊢
      have HRD := Lib.hid hrd
      clear hrd HO
      go_wp2
      go_ret
      exact ⟨_, _, rfl, HRD.out, HE.out⟩
set_option maxRecDepth 100000 in
set_option maxHeartbeats 4000000 in
theorem inAll_c (u v : Value) (xs ys : List Int) (w : World) (hx : Reads w u xs) (hy : Reads w v ys) : Calls Tryz.prog 29 #[u, v] w fun e w' => e = .returned (.bool (xs.all (hasB ys))) ∧ Ext w w' := by
  obtain ⟨hl5, a, cap, rfl⟩ := hx.shape
  have HX := Lib.hid hx
  have HY := Lib.hid (fun n => has_c v ys n w hy)
  obtain ⟨m, hm⟩ : ∃ m, m = xs.length := ⟨_, rfl⟩
  have HM := Lib.hid hm
  obtain ⟨r, hr⟩ : ∃ r, r = xs.all (hasB ys) := ⟨_, rfl⟩
  rw [← hr]
  have HR := Lib.hid hr
  rw [← hm] at hl5 HX ⊢
  clear hx hm hr hy
  go_enter Tryz.func29, Tryz.ntmps29
  go_wp2
  go_loopw [5] (fun i wr => ∃ k : Nat, k ≤ m ∧ i = .int .i64 (k : Int) ∧ Hid ((xs.take k).all (hasB ys) = true) ∧ Hid (wr = w)) (fun i wr => m - (intOf i).toNat)
  case atStart => exact ⟨0, Nat.zero_le _, rfl, Lib.hid rfl, (by first | exact Lib.hid rfl | exact Lib.hid trivial)⟩
  case round =>
    obtain ⟨k, hk, rfl, hI, hW⟩ := hrel
    obtain rfl := hW.out
    by_cases hlt : k < m
    · obtain ⟨b, off, x, rfl, hx, hc⟩ := HX.out.at (k := k) (by have := HM.out; omega)
      have hka : (0 : Int) ≤ (k : Int) := by omega
      have hkb : (k : Int) < (m : Int) := by omega
      have HAT := Lib.hid (show (xs.take (k + 1)).all (hasB ys) = hasB ys x from by rw [take_snoc hx, List.all_append, hI.out]; simp)
      have HMX := Lib.hid (List.mem_of_getElem? hx)
      have HQ := Lib.hid (HY.out x)
      clear hx
      cases hq : hasB ys x with
      | true =>
        rw [hq] at HQ HAT
        clear hq
        go_wp2_with fail
        refine Calls.mono HQ.out ?_
        intro e Y h1; obtain ⟨h1, hY⟩ := h1; subst h1; subst hY
        go_wp2
        go_roundw
        case rel => exact ⟨k + 1, by omega, by go_num, HAT, (by first | exact Lib.hid rfl | exact Lib.hid trivial)⟩
        case measure => simp [intOf]; omega
      | false =>
        have HF := Lib.hid (show r = false from by
          rw [HR.out, List.all_eq_false]
          exact ⟨x, HMX.out, by rw [hq]; decide⟩)
        rw [hq] at HQ
        clear hq
        go_wp2_with fail
        refine Calls.mono HQ.out ?_
        intro e Y h1; obtain ⟨h1, hY⟩ := h1; subst h1; subst hY
        go_wp2
        go_ret
        exact ⟨ret_bool HF.out.symm, Ext.refl _⟩
    · have hkm : k = m := by omega
      subst k
      have HT := Lib.hid (show r = true from by
        have := hI.out
        rw [List.take_of_length_le (by have := HM.out; omega)] at this
        rw [HR.out, this])
      go_wp2
      go_ret
      exact ⟨ret_bool HT.out.symm, Ext.refl _⟩
theorem fre_mem {wn kn : List Nat} {x k : Nat} : x ∈ freN wn kn k ↔ x < k ∧ x ∉ wn ∧ x ∉ kn := by
  unfold freN memL
  rw [List.mem_filter, List.mem_range, Bool.and_eq_true, Bool.not_eq_true', Bool.not_eq_true', decide_eq_false_iff_not, decide_eq_false_iff_not]
end Go.Proofs.YtppjnpempgpkaaaGreat
