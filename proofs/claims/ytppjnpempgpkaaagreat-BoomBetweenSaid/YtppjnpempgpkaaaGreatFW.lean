/- Water, by its contract. -/
import Derived.Test.YtppjnpempgpkaaaGreatSO
import Derived.Test.YtppjnpempgpkaaaGreatH7
import Derived.Test.YtppjnpempgpkaaaGreatH6
import Derived.Test.YtppjnpempgpkaaaGreatN3
import Derived.Test.YtppjnpempgpkaaaGreatK1
namespace Go.Proofs.YtppjnpempgpkaaaGreat
open Go.RowKit Go.Shelf
set_option linter.unusedVariables false
set_option linter.unusedSimpArgs false
attribute [local go_sem] Oper.semAt_some

theorem and1_u64 (a : Nat) (ha : a < 18446744073709551616) : bits .and .u64 (a : Int) 1 = ((a % 2 : Nat) : Int) := by
  show IntKind.u64.wrap ((BitVec.ofInt 64 (a : Int) &&& BitVec.ofInt 64 1).toNat : Int) = _
  have h1 : (BitVec.ofInt 64 (a : Int)).toNat = a := by rw [BitVec.toNat_ofInt]; omega
  have h2 : (BitVec.ofInt 64 1).toNat = 1 := by decide
  rw [BitVec.toNat_and, h1, h2, Nat.and_one_is_mod]
  have : a % 2 < 2 := Nat.mod_lt _ (by decide)
  generalize a % 2 = r at *
  have h3 : r = 0 ∨ r = 1 := by omega
  rcases h3 with rfl | rfl <;> rfl
def watN (W H : Nat) (wn kn : List Nat) (b k : Nat) : List Nat := (List.range k).filter fun i => !memL kn i && (b.testBit i || memL wn i)
theorem watN_succ (W H : Nat) (wn kn : List Nat) (b k : Nat) : watN W H wn kn b (k + 1) = watN W H wn kn b k ++ if (!memL kn k && (b.testBit k || memL wn k)) = true then [k] else [] := by
  unfold watN
  rw [List.range_succ, List.filter_append, List.filter_cons, List.filter_nil]
set_option maxRecDepth 100000 in
set_option maxHeartbeats 4000000 in
theorem waterB_c (W H nw cw nk ck : Nat) (aw ak : Option Addr) (wn kn : List Nat) (hv : VP W H wn kn) (b : Nat) (hb : b < 18446744073709551616) (w : World) (hw : Reads w (.slice aw nw cw) (natI wn)) (hk : Reads w (.slice ak nk ck) (natI kn)) :
    Calls Tryz.prog 26 #[.agg #[.int .i64 (W : Int), .int .i64 (H : Int), .slice aw nw cw, .slice ak nk ck], .int .u64 (b : Int)] w fun e w' => ∃ u, e = .returned u ∧ OwnI 3 w.heap.size w' u (natI (watN W H wn kn b (W * H))) ∧ Ext w w' := by
  have hW8 := hv.w8; have hH8 := hv.h8
  have HCE := Lib.hid (fun (X : World) => rcells_c W H nw cw nk ck aw ak hW8 hH8 X)
  have h64 := hv.n64
  obtain ⟨m, hm⟩ : ∃ m, m = W * H := ⟨_, rfl⟩
  rw [← hm] at HCE h64 ⊢
  have HWL := Lib.hid hw; have HKL := Lib.hid hk
  clear hw hk hm hW8 hH8
  obtain ⟨w1, hw1⟩ : ∃ w1, w1 = w.alloc (.cells #[.int .i64 (W : Int), .int .i64 (H : Int), .slice aw nw cw, .slice ak nk ck] 24) := ⟨_, rfl⟩
  have E0 := Lib.hid (show Ext w w1 from by rw [hw1]; exact (Ext.refl w).alloc _)
  have B0 := Lib.hid (show w1.heap[w.heap.size]? = some (.cells #[.int .i64 (W : Int), .int .i64 (H : Int), .slice aw nw cw, .slice ak nk ck] 24 (0, 0)) from by rw [hw1]; exact heap_alloc_new w _)
  go_enter Tryz.func26, Tryz.ntmps26
  go_upto_region 2 with fail
  rw [← hw1]
  clear hw1
  go_wp2
  go_loopw [5, 6] (fun u i wr => ∃ k : Nat, k ≤ m ∧ i = .int .i64 (k : Int) ∧ Hid (OwnI 3 (w.heap.size + 1) wr u (natI (watN W H wn kn b k))) ∧ Hid (wr.heap[w.heap.size]? = some (.cells #[.int .i64 (W : Int), .int .i64 (H : Int), .slice aw nw cw, .slice ak nk ck] 24 (0, 0))) ∧ Hid (Ext w wr)) (fun u i wr => m - (intOf i).toNat)
  case atStart => exact ⟨0, Nat.zero_le _, rfl, Lib.hid (OwnI.nil _ _ _), B0, E0⟩
  case round =>
    clear B0 E0
    obtain ⟨k, hk, rfl, hO, hp, hE⟩ := hrel
    obtain ⟨z0, z1, z2, z3⟩ := cells4 hp.out
    go_wp2_with fail
    refine (HCE.out _).mono ?_
    rintro e Y1 ⟨rfl, h2⟩
    have HE := Lib.hid (hE.out.trans h2); have HP := Lib.hid (block_ext h2 hp.out); have HO := Lib.hid (hO.out.ext h2)
    clear h2 z0 z1 z2 z3 hO hp hE
    obtain ⟨z0, z1, z2, z3⟩ := cells4 HP.out
    by_cases hlt : k < m
    · have HQ1 := Lib.hid (has_c _ (natI kn) (k : Int) Y1 (HKL.out.ext HE.out))
      have HQ2 := Lib.hid (has_c _ (natI wn) (k : Int) Y1 (HWL.out.ext HE.out))
      rw [hasB_nat] at HQ1 HQ2
      have HSU := Lib.hid (watN_succ W H wn kn b k)
      unfold memL at HSU
      generalize decide (k ∈ kn) = q1 at *
      generalize decide (k ∈ wn) = q2 at *
      have hka : (0 : Int) ≤ (k : Int) := by omega
      have hkb : (k : Int) < (m : Int) := by omega
      have hkt : (k : Int).toNat = k := by omega
      obtain ⟨s, hs⟩ : ∃ s, s = b / 2 ^ k := ⟨_, rfl⟩
      have hsi : (b : Int) / 2 ^ k = (s : Int) := by rw [hs]; simp
      have hs64 : s < 18446744073709551616 := by rw [hs]; exact Nat.lt_of_le_of_lt (Nat.div_le_self _ _) hb
      have hand := and1_u64 s hs64
      have hbt : b.testBit k = decide (s % 2 = 1) := by rw [Nat.testBit_eq_decide_div_mod_eq, hs]
      rw [hbt] at HSU
      have hr2 : s % 2 < 2 := Nat.mod_lt _ (by decide)
      generalize s % 2 = r at *
      clear hs hbt hb hs64
      cases q1
      · go_wp2_with fail
        refine Calls.mono HQ1.out ?_
        intro e Y h1; obtain ⟨h1, hY⟩ := h1; subst h1; subst hY
        have hr3 : r = 0 ∨ r = 1 := by omega
        have HLEN := Lib.hid (show (natI (watN W H wn kn b k)).length ≤ 20000 from by
          rw [natI_len]
          unfold watN
          have h1 := List.length_filter_le (fun i => !memL kn i && (b.testBit i || memL wn i)) (List.range k)
          rw [List.length_range] at h1
          omega)
        rcases hr3 with rfl | rfl
        · go_wp2_with fail
          refine Calls.mono HQ2.out ?_
          intro e Y h1; obtain ⟨h1, hY⟩ := h1; subst h1; subst hY
          cases q2
          · have HS2 := Lib.hid (show natI (watN W H wn kn b (k + 1)) = natI (watN W H wn kn b k) from by rw [HSU.out]; simp)
            go_wp2
            go_roundw
            case rel => exact ⟨k + 1, by omega, by go_num, by rw [HS2.out]; exact HO, HP, HE⟩
            case measure => simp [intOf]; omega
          · have HS3 := Lib.hid (show natI (watN W H wn kn b (k + 1)) = natI (watN W H wn kn b k) ++ [(k : Int)] from by rw [HSU.out]; unfold natI; simp)
            obtain ⟨W3, hW3⟩ : ∃ W3, W3 = Y1.alloc (.cells #[.int .i64 (k : Int)] 3) := ⟨_, rfl⟩
            have hE3 : Ext Y1 W3 := by rw [hW3]; exact (Ext.refl _).alloc _
            have hz3 : W3.cell? ⟨Y1.heap.size, 0, none⟩ = some (.int .i64 (k : Int)) := cell_of_blk (by rw [hW3]; exact heap_alloc_new Y1 _) rfl
            obtain ⟨v4, X4, hrun, ho4, hg4⟩ := appendI_run (HO.out.ext hE3) (by have := lt_of_blk HP.out; have := hE3.size; omega) HLEN.out (k : Int) Y1.heap.size hz3 22
            have hob := own_from (HO.out.ext hE3)
            have HO4 := Lib.hid (show OwnI 3 (w.heap.size + 1) X4 v4 (natI (watN W H wn kn b (k + 1))) from by rw [HS3.out]; exact ho4)
            have HB4 := Lib.hid ((hg4.block w.heap.size (lt_of_blk (block_ext hE3 HP.out)) (fun e => by have := hob _ e.symm; omega)).trans (block_ext hE3 HP.out))
            have HE4 := Lib.hid (show Ext w X4 from grown_any (HE.out.trans hE3) hg4 (fun g e => by have := hob g e; omega))
            rw [hW3] at hrun
            clear hE3 hz3 ho4 hg4 hob hW3
            go_wp2_with (first | (refine wpList_append_run rfl _ _ 22 rfl rfl rfl hrun ?_) | fail)
            go_roundw
            case rel => exact ⟨k + 1, by omega, by go_num, HO4, HB4, HE4⟩
            case measure => simp [intOf]; omega
        · have HS3 := Lib.hid (show natI (watN W H wn kn b (k + 1)) = natI (watN W H wn kn b k) ++ [(k : Int)] from by rw [HSU.out]; unfold natI; simp)
          obtain ⟨W3, hW3⟩ : ∃ W3, W3 = Y1.alloc (.cells #[.int .i64 (k : Int)] 3) := ⟨_, rfl⟩
          have hE3 : Ext Y1 W3 := by rw [hW3]; exact (Ext.refl _).alloc _
          have hz3 : W3.cell? ⟨Y1.heap.size, 0, none⟩ = some (.int .i64 (k : Int)) := cell_of_blk (by rw [hW3]; exact heap_alloc_new Y1 _) rfl
          obtain ⟨v4, X4, hrun, ho4, hg4⟩ := appendI_run (HO.out.ext hE3) (by have := lt_of_blk HP.out; have := hE3.size; omega) HLEN.out (k : Int) Y1.heap.size hz3 22
          have hob := own_from (HO.out.ext hE3)
          have HO4 := Lib.hid (show OwnI 3 (w.heap.size + 1) X4 v4 (natI (watN W H wn kn b (k + 1))) from by rw [HS3.out]; exact ho4)
          have HB4 := Lib.hid ((hg4.block w.heap.size (lt_of_blk (block_ext hE3 HP.out)) (fun e => by have := hob _ e.symm; omega)).trans (block_ext hE3 HP.out))
          have HE4 := Lib.hid (show Ext w X4 from grown_any (HE.out.trans hE3) hg4 (fun g e => by have := hob g e; omega))
          rw [hW3] at hrun
          clear hE3 hz3 ho4 hg4 hob hW3
          go_wp2_with (first | (refine wpList_append_run rfl _ _ 22 rfl rfl rfl hrun ?_) | fail)
          go_roundw
          case rel => exact ⟨k + 1, by omega, by go_num, HO4, HB4, HE4⟩
          case measure => simp [intOf]; omega
      · have HS2 := Lib.hid (show natI (watN W H wn kn b (k + 1)) = natI (watN W H wn kn b k) from by rw [HSU.out]; simp)
        go_wp2_with (first | (go_at_call 30; refine Calls.mono HQ1.out ?_; intro e Y h1; obtain ⟨h1, hY⟩ := h1; subst h1; subst hY) | fail)
        go_roundw
        case rel => exact ⟨k + 1, by omega, by go_num, by rw [HS2.out]; exact HO, HP, HE⟩
        case measure => simp [intOf]; omega
    · obtain rfl : k = m := by omega
      go_wp2
      go_ret
      exact ⟨_, rfl, ownI_weak HO.out (by omega), HE.out⟩
end Go.Proofs.YtppjnpempgpkaaaGreat
