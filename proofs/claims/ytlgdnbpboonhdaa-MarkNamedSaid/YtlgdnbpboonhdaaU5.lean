/- Plain facts about a greater Loss; part. MarkLost, by its contract. -/
import Derived.Test.YtlgdnbpboonhdaaU1
import Derived.Test.YtlgdnbpboonhdaaM10
import Derived.Test.YtlgdnbpboonhdaaY1
import Derived.StillTailTactics
namespace Go.Proofs.Ytlgdnbpboonhdaa
open Go.RowKit
set_option linter.unusedVariables false
theorem cb_mono (L L2 : Int) (w m : Nat) (h : L ≤ L2) (hc : cb L w m = true) : cb L2 w m = true := by
  unfold cb at *
  simp only [Bool.and_eq_true, decide_eq_true_eq] at *
  exact ⟨hc.1, by omega⟩
theorem cl_mono (L L2 : Int) (a b : Nat) (h : L ≤ L2) (hc : cl L a b = true) : cl L2 a b = true := by
  unfold cl at *
  rw [Bool.and_eq_true] at *
  exact ⟨cb_mono _ _ _ _ h hc.1, cb_mono _ _ _ _ h hc.2⟩
theorem freeTo_mono (L L2 : Int) (ms : List Nat) (m k : Nat) (h : L ≤ L2) (hf : freeTo L2 ms m k = true) : freeTo L ms m k = true := by
  unfold freeTo at *
  rw [List.all_eq_true] at *
  intro i hi
  have := hf i hi
  rw [Bool.not_eq_true'] at *
  rw [Bool.eq_false_iff] at *
  exact fun hc => this (cl_mono _ _ _ _ h hc)
theorem mem_pickL (lo n : Nat) (p : Nat → Bool) (x : Nat) : x ∈ pickL lo n p ↔ (lo ≤ x ∧ x < lo + n) ∧ p x = true := by
  unfold pickL
  rw [List.mem_filter, List.mem_range'_1]
theorem owners_part (L L2 x : Nat) (ms : List Nat) (h : L ≤ L2) : ∀ y ∈ ints (ownersL L x ms), y ∈ ints (ownersL L2 x ms) := by
  intro y hy
  unfold ints at *
  rw [List.mem_map] at *
  obtain ⟨i, hi, rfl⟩ := hy
  refine ⟨i, ?_, rfl⟩
  unfold ownersL at *
  rw [mem_pickL] at *
  exact ⟨hi.1, cb_mono _ _ _ _ (by omega) hi.2⟩
theorem free_part {S L L2 : Nat} {ms : List Nat} (hv : Valid S L ms) (hv2 : Valid S L2 ms) (h : L ≤ L2) : ∀ y ∈ ints (freeL S L2 ms), y ∈ ints (freeL S L ms) := by
  rw [freeL_eq hv, freeL_eq hv2]
  intro y hy
  unfold ints at *
  rw [List.mem_map] at *
  obtain ⟨i, hi, rfl⟩ := hy
  refine ⟨i, ?_, rfl⟩
  rw [mem_pickL] at *
  exact ⟨hi.1, freeTo_mono _ _ _ _ _ (by omega) hi.2⟩
theorem mem_take_succ {xs : List Int} {k : Nat} {y x : Int} (h : xs[k]? = some y) : x ∈ xs.take (k + 1) ↔ x ∈ xs.take k ∨ x = y := by
  rw [List.take_add_one, h]; simp
set_option maxRecDepth 100000 in
set_option maxHeartbeats 2000000 in
theorem part53 (u v : Value) (xs ys : List Int) (w : World) (hx : Reads w u xs) (hy : Reads w v ys) (hs : ∀ x ∈ xs, x ∈ ys) :
    Calls Try.prog 53 #[u, v] w fun e w' => e = .returned (.bool true) ∧ Ext w w' := by
  obtain ⟨hl, a, cap, rfl⟩ := hx.shape
  obtain ⟨hl2, a2, cap2, rfl⟩ := hy.shape
  have HX := Lib.hid hx; have HY := Lib.hid hy; have HS := Lib.hid hs; clear hx hy hs
  go_enter Try.func53, Try.ntmps53
  go_wp2
  go_loopw [5] (fun i wr => ∃ k : Nat, k ≤ xs.length ∧ i = .int .i64 (k : Int) ∧ Hid (Ext w wr)) (fun i wr => xs.length - (RowKit.intOf i).toNat)
  case atStart => exact ⟨0, Nat.zero_le _, rfl, Ext.refl _⟩
  case round =>
    obtain ⟨k, hk, rfl, hE⟩ := hrel
    by_cases hlt : k < xs.length
    · obtain ⟨b, off, x, rfl, hxk, -⟩ := (HX.out.ext hE.out).at hlt
      have hmem := HS.out x (List.mem_of_getElem? hxk)
      have HMEM := Lib.hid hmem; have HXK := Lib.hid hxk; clear hmem hxk
      have hka : (0 : Int) ≤ (k : Int) := by omega
      have hkb : (k : Int) < (xs.length : Int) := by omega
      go_wp2
      go_loopw [6, 7] (fun f i wr2 => ∃ (j : Nat) (fb : Bool), j ≤ ys.length ∧ i = .int .i64 (j : Int) ∧ f = .bool fb ∧ Hid (Ext w wr2) ∧ Hid (fb = decide (x ∈ ys.take j))) (fun f i wr2 => ys.length - (RowKit.intOf i).toNat)
      case atStart => exact ⟨0, false, Nat.zero_le _, rfl, rfl, hE.out, (by simp : _ = _)⟩
      case round =>
        obtain ⟨j, fb, hj, rfl, rfl, hE2, hF⟩ := hrel
        by_cases hjt : j < ys.length
        · obtain ⟨b1, off1, x1, hbo, hxk, hc1⟩ := (HX.out.ext hE2.out).at hlt
          cases hbo
          rw [HXK.out] at hxk; cases hxk
          obtain ⟨b2, off2, y, rfl, hyk, hc2⟩ := (HY.out.ext hE2.out).at hjt
          have hm := mem_take_succ (x := x) hyk
          have HM := Lib.hid hm; clear hm hyk
          have hja : (0 : Int) ≤ (j : Int) := by omega
          have hjb : (j : Int) < (ys.length : Int) := by omega
          cases fb
          · have HF2 := Lib.hid (show (x == y) = decide (x ∈ ys.take (j + 1)) from by
              have h0 := hF.out
              have h1 := of_decide_eq_false h0.symm
              rw [Bool.eq_iff_iff, beq_iff_eq, decide_eq_true_iff, HM.out]
              exact ⟨.inr, fun h => h.resolve_left h1⟩)
            go_wp2
            go_quiet (fail)
            go_wp2
            go_roundw
            case rel => exact ⟨j + 1, _, by omega, by go_num, rfl, (hE2.out.drewN _ : Ext _ _), (HF2.out : _ = _)⟩
            case measure => simp [RowKit.intOf]; omega
          · have HF2 := Lib.hid (show true = decide (x ∈ ys.take (j + 1)) from by
              have h0 := hF.out
              have h1 := of_decide_eq_true h0.symm
              exact (decide_eq_true (HM.out.2 (.inl h1))).symm)
            go_wp2
            go_quiet (fail)
            go_wp2
            go_roundw
            case rel => exact ⟨j + 1, _, by omega, by go_num, rfl, (hE2.out.drewN _ : Ext _ _), (HF2.out : _ = _)⟩
            case measure => simp [RowKit.intOf]; omega
        · obtain rfl : j = ys.length := by omega
          obtain rfl : fb = true := by rw [hF.out, List.take_of_length_le (Nat.le_refl _)]; exact decide_eq_true HMEM.out
          go_wp2
          go_roundw
          case rel => exact ⟨k + 1, by omega, by go_num, hE2.out⟩
          case measure => simp [RowKit.intOf]; omega
    · obtain rfl : k = xs.length := by omega
      go_wp2
      go_ret
      exact ⟨rfl, hE.out⟩
end Go.Proofs.Ytlgdnbpboonhdaa
namespace Go.Proofs.Ytlgdnbpboonhdaa
open Go.RowKit Go.Shelf Go.Maps
set_option linter.unusedVariables false
attribute [local go_sem] Oper.semAt_some
theorem set_row1 {W : World} {b : Nat} {x y z : Value} {t : TypeId} {fr : Nat × Nat} (h : W.heap[b]? = some (.cells #[x, y, z] t fr)) (y' : Value) :
    (W.setCell ⟨b, 1, none⟩ y').heap[b]? = some (.cells #[x, y', z] t fr) := by
  show (W.heap.modify b _)[b]? = _
  rw [Array.getElem?_modify, if_pos rfl, h]
  rfl
theorem worn_mod (x S : Nat) (h1 : 1 ≤ S) (h2 : S ≤ 10) : (x : Int) % wrap64 (2 ^ S) = ((x % 2 ^ S : Nat) : Int) := by
  have : S = 1 ∨ S = 2 ∨ S = 3 ∨ S = 4 ∨ S = 5 ∨ S = 6 ∨ S = 7 ∨ S = 8 ∨ S = 9 ∨ S = 10 := by omega
  rcases this with rfl | rfl | rfl | rfl | rfl | rfl | rfl | rfl | rfl | rfl <;> simp [wrap64]
theorem worn_nz (S : Nat) (h1 : 1 ≤ S) (h2 : S ≤ 10) : ¬ wrap64 (2 ^ S) = 0 := by
  have : S = 1 ∨ S = 2 ∨ S = 3 ∨ S = 4 ∨ S = 5 ∨ S = 6 ∨ S = 7 ∨ S = 8 ∨ S = 9 ∨ S = 10 := by omega
  rcases this with rfl | rfl | rfl | rfl | rfl | rfl | rfl | rfl | rfl | rfl <;> simp [wrap64]
theorem worn_le (x S : Nat) : x % 2 ^ S ≤ full S := by
  have := Nat.mod_lt x (Nat.two_pow_pos S)
  unfold full; omega
set_option maxRecDepth 100000 in
set_option maxHeartbeats 8000000 in
theorem lost14 (S L : Int) (a : Option Addr) (cap : Nat) (xs : List Int) (x y : Int) (hx : 0 ≤ x ∧ x ≤ 65535) (hy : 0 ≤ y ∧ y ≤ 255) (w : World) (hlen : xs.length ≤ cap ∧ cap ≤ 9223372036854775807) (hr : xs.length ≤ 5000 → Reads w (.slice a xs.length cap) xs) :
    Calls Try.prog 14 #[.agg #[.int .i64 S, .int .i64 L, .slice a xs.length cap], .int .u16 x, .int .u8 y] w fun e w' => e = .returned (.bool true) ∧ Ext w w' := by
  have E0 := Lib.hid ((Ext.refl w).alloc (.cells #[.int .i64 S, .int .i64 L, .slice a xs.length cap] 24))
  rcases fine_cases S L a cap xs w hlen hr with hf | ⟨S', L', ms, rfl, rfl, rfl, hv, hR, hf⟩
  · have HF := Lib.hid (hf _ E0.out)
    clear hf hr
    go_enter Try.func14, Try.ntmps14
    go_wp2_with fail
    refine HF.out.mono ?_
    rintro e w1 ⟨rfl, hb⟩
    have HE := Lib.hid (E0.out.trans hb); clear hb
    go_wp2_with fail
    refine (works18 _).mono ?_
    rintro e w2 ⟨rfl, hb⟩
    replace HE := Lib.hid (HE.out.trans hb); clear hb
    go_wp2
    go_ret
    exact ⟨rfl, HE.out⟩
  · have HF := Lib.hid (hf _ E0.out)
    have P0 := Lib.hid (OffAt.new w (.int .i64 (S' : Int)) (.int .i64 (L' : Int)) (.slice a (ints ms).length cap) 24)
    by_cases h8 : 8 < S'
    · clear hf hr hR
      have hd : decide ((8 : Int) < (S' : Int)) = true := by simp; omega
      go_enter Try.func14, Try.ntmps14
      go_wp2_with fail
      refine HF.out.mono ?_
      rintro e w1 ⟨rfl, hb⟩
      obtain ⟨g1, g2, g3⟩ := P0.out.ext hb
      have HE := Lib.hid (E0.out.trans hb); clear hb
      go_wp2_with fail
      refine (works18 _).mono ?_
      rintro e w2 ⟨rfl, hb⟩
      replace HE := Lib.hid (HE.out.trans hb); clear hb
      go_wp2
      go_ret
      exact ⟨rfl, HE.out⟩
    · have hL := hv.2.2.1
      have hS1 := hv.1
      have HV := Lib.hid hv
      have HR := Lib.hid hR
      clear hf hr hR hv
      have hmix : Try.prog.follows .mixedOrders = true := by kernel_rfl
      go_enter Try.func14, Try.ntmps14
      go_wp2_with fail
      refine HF.out.mono ?_
      rintro e w1 ⟨rfl, hb⟩
      have P1 := Lib.hid (P0.out.ext hb)
      obtain ⟨g1, g2, g3⟩ := P0.out.ext hb
      have HE := Lib.hid (E0.out.trans hb); clear hb
      have hB2 := heap_alloc_new w1 (.cells #[.int .i64 (S' : Int), .int .i64 (L' : Int), .slice a (ints ms).length cap] 24)
      have hE2 := (Ext.refl w1).alloc (.cells #[.int .i64 (S' : Int), .int .i64 (L' : Int), .slice a (ints ms).length cap] 24)
      have HB2 := Lib.hid hB2; have HE2 := Lib.hid hE2; clear hB2 hE2
      go_wp2
      refine still_tail 13 hmix (by kernel_rfl) fun W hW => ?_
      have hE3 : Ext (w1.alloc (.cells #[.int .i64 (S' : Int), .int .i64 (L' : Int), .slice a (ints ms).length cap] 24)) W := by rw [hW]; exact (Ext.refl _).drew
      clear hW
      have HE3 := Lib.hid (HE2.out.trans hE3)
      have HB3 := Lib.hid (block_ext hE3 HB2.out)
      clear hE3 g1 g2 g3
      obtain ⟨g1, g2, g3⟩ := P1.out.ext HE3.out
      have k1 : W.cell? ⟨w1.heap.size, 1, none⟩ = some (.int .i64 (L' : Int)) := by rw [cell_of_row _ _ _ _ _ _ HB3.out]; rfl
      simp only [List.take_succ_cons, List.take_zero, List.drop_succ_cons, List.drop_zero]
      obtain ⟨y, rfl⟩ := Int.eq_ofNat_of_zero_le hy.1
      obtain ⟨d, hd⟩ : ∃ d : Nat, d = S' - L' + 1 := ⟨_, rfl⟩
      have e1 : IntKind.i64.wrap (y : Int) = (y : Int) := wrapi64 _ (by omega)
      have e2 : IntKind.i64.wrap ((S' : Int) - (L' : Int)) = ((S' - L' : Nat) : Int) := by rw [show (S' : Int) - (L' : Int) = ((S' - L' : Nat) : Int) from by omega]; exact wrapi64 _ (by omega)
      have e3 : IntKind.i64.wrap (((S' - L' : Nat) : Int) + 1) = (d : Int) := by rw [show ((S' - L' : Nat) : Int) + 1 = (d : Int) from by omega]; exact wrapi64 _ (by omega)
      have hd0 : ¬ (d : Int) = 0 := by omega
      have hd1 : ((d : Int) == 0) = false := by simp; omega
      repeat still_step
      rw [show ((S' - L' : Nat) : Int) + 1 = (d : Int) from by omega]
      have HD := Lib.hid hd
      have hdp : 0 < d := by omega
      clear hd e1 e2 e3
      refine wpStill_step (fun K hK => ?_)
      go_simp
      rw [if_neg (show ¬ d = 0 by omega), show ((y : Int)).tmod (d : Int) = ((y % d : Nat) : Int) from (Int.ofNat_tmod y d).symm]
      refine ⟨rfl, hK _ ?_⟩
      clear hK K
      obtain ⟨L2, hL2⟩ : ∃ L2 : Nat, L2 = L' + y % d := ⟨_, rfl⟩
      have hrd := Nat.mod_lt y hdp
      have hL2S : L2 ≤ S' := by have := HD.out; omega
      have hL2L : L' ≤ L2 := by omega
      generalize y % d = r at *
      have e5 : (L' : Int) + (r : Int) = (L2 : Int) := by omega
      have E5 := Lib.hid e5; clear e5 hL2
      repeat still_step
      refine wpStill_nil ?_
      rw [E5.out, wrapi64 L2 (by omega)]
      clear hmix hd0 hd1 hdp hrd
      have f1 := frozen_of_row _ _ 1 _ _ HB3.out
      have HB4 := Lib.hid (set_row1 HB3.out (.int .i64 (L2 : Int)))
      have HE4 := Lib.hid (show Ext w1 (W.setCell ⟨w1.heap.size, 1, none⟩ (.int .i64 (L2 : Int))) from Below.setCell HE3.out (Nat.le_refl _) _)
      obtain ⟨q1, q2, q3⟩ := P1.out.ext HE4.out
      have c0 : (W.setCell ⟨w1.heap.size, 1, none⟩ (.int .i64 (L2 : Int))).cell? ⟨w1.heap.size, 0, none⟩ = some (.int .i64 (S' : Int)) := by rw [cell_of_row _ _ _ _ _ _ HB4.out]; rfl
      have c1 : (W.setCell ⟨w1.heap.size, 1, none⟩ (.int .i64 (L2 : Int))).cell? ⟨w1.heap.size, 1, none⟩ = some (.int .i64 (L2 : Int)) := by rw [cell_of_row _ _ _ _ _ _ HB4.out]; rfl
      have c2 : (W.setCell ⟨w1.heap.size, 1, none⟩ (.int .i64 (L2 : Int))).cell? ⟨w1.heap.size, 2, none⟩ = some (.slice a (ints ms).length cap) := by rw [cell_of_row _ _ _ _ _ _ HB4.out]; rfl
      obtain ⟨x, rfl⟩ := Int.eq_ofNat_of_zero_le hx.1
      have e6 := worn_mod x S' HV.out.1 HV.out.2.1
      have hwv := worn_le x S'
      have hwz := worn_nz S' HV.out.1 HV.out.2.1
      have HN1 := Lib.hid (fun W2 (h : Ext w W2) => owners19_ok S' L' (x % 2 ^ S') ms _ W2 HV.out (HR.out.ext h) hwv)
      have HV2 := Lib.hid (show Valid S' L2 ms from ⟨HV.out.1, HV.out.2.1, hL2S, HV.out.2.2.2⟩)
      have HN2 := Lib.hid (fun W2 (h : Ext w W2) => owners19_ok S' L2 (x % 2 ^ S') ms _ W2 HV2.out (HR.out.ext h) hwv)
      have HF1 := Lib.hid (fun W2 (h : Ext w W2) => free35_ok S' L' ms _ W2 HV.out (HR.out.ext h))
      have HF2 := Lib.hid (fun W2 (h : Ext w W2) => free35_ok S' L2 ms _ W2 HV2.out (HR.out.ext h))
      have HM1 := Lib.hid (fun W2 (h : Ext w W2) => margin28_ok S' L' ms _ W2 HV.out (HR.out.ext h))
      have HM2 := Lib.hid (fun W2 (h : Ext w W2) => margin28_ok S' L2 ms _ W2 HV2.out (HR.out.ext h))
      have HP1 := Lib.hid (owners_part L' L2 (x % 2 ^ S') ms hL2L)
      have HP2 := Lib.hid (free_part HV.out HV2.out hL2L)
      have E6 := Lib.hid e6; clear e6 hwv
      generalize ownersL L' (x % 2 ^ S') ms = o1 at *
      generalize ownersL L2 (x % 2 ^ S') ms = o2 at *
      generalize freeL S' L' ms = f1' at *
      generalize freeL S' L2 ms = f2' at *
      generalize marginL S' ms (pairsL ms.length) = mm at *
      generalize x % 2 ^ S' = xv at *
      clear hL2L
      go_wp2_with fail
      rw [E6.out]
      replace HE := Lib.hid (HE.out.trans HE4.out)
      refine (HN1.out _ HE.out).mono ?_
      rintro e v2 ⟨u1, rfl, hu1, hb⟩
      obtain ⟨q1, q2, q3⟩ := OffAt.ext ⟨q1, q2, q3⟩ hb
      obtain ⟨c0, c1, c2⟩ := OffAt.ext ⟨c0, c1, c2⟩ hb
      replace HE := Lib.hid (HE.out.trans hb)
      have R1 := Lib.hid hu1; clear hb hu1
      go_wp2_with fail
      refine (HN2.out _ HE.out).mono ?_
      rintro e v3 ⟨u2, rfl, hu2, hb⟩
      obtain ⟨q1, q2, q3⟩ := OffAt.ext ⟨q1, q2, q3⟩ hb
      obtain ⟨c0, c1, c2⟩ := OffAt.ext ⟨c0, c1, c2⟩ hb
      replace HE := Lib.hid (HE.out.trans hb)
      replace R1 := Lib.hid (R1.out.ext hb)
      have R2 := Lib.hid hu2; clear hb hu2
      go_wp2_with fail
      refine (HF1.out _ HE.out).mono ?_
      rintro e v4 ⟨u3, rfl, hu3, hb⟩
      obtain ⟨q1, q2, q3⟩ := OffAt.ext ⟨q1, q2, q3⟩ hb
      obtain ⟨c0, c1, c2⟩ := OffAt.ext ⟨c0, c1, c2⟩ hb
      replace HE := Lib.hid (HE.out.trans hb)
      replace R1 := Lib.hid (R1.out.ext hb)
      replace R2 := Lib.hid (R2.out.ext hb)
      have R3 := Lib.hid hu3; clear hb hu3
      go_wp2_with fail
      refine (HF2.out _ HE.out).mono ?_
      rintro e v5 ⟨u4, rfl, hu4, hb⟩
      obtain ⟨q1, q2, q3⟩ := OffAt.ext ⟨q1, q2, q3⟩ hb
      obtain ⟨c0, c1, c2⟩ := OffAt.ext ⟨c0, c1, c2⟩ hb
      replace HE := Lib.hid (HE.out.trans hb)
      replace R1 := Lib.hid (R1.out.ext hb)
      replace R2 := Lib.hid (R2.out.ext hb)
      replace R3 := Lib.hid (R3.out.ext hb)
      have R4 := Lib.hid hu4; clear hb hu4
      go_wp2_with fail
      refine (HM1.out _ HE.out).mono ?_
      rintro e v6 ⟨rfl, hb⟩
      obtain ⟨q1, q2, q3⟩ := OffAt.ext ⟨q1, q2, q3⟩ hb
      obtain ⟨c0, c1, c2⟩ := OffAt.ext ⟨c0, c1, c2⟩ hb
      replace HE := Lib.hid (HE.out.trans hb)
      replace R1 := Lib.hid (R1.out.ext hb)
      replace R2 := Lib.hid (R2.out.ext hb)
      replace R3 := Lib.hid (R3.out.ext hb)
      replace R4 := Lib.hid (R4.out.ext hb)
      clear hb
      go_wp2_with fail
      refine (HM2.out _ HE.out).mono ?_
      rintro e v7 ⟨rfl, hb⟩
      obtain ⟨q1, q2, q3⟩ := OffAt.ext ⟨q1, q2, q3⟩ hb
      obtain ⟨c0, c1, c2⟩ := OffAt.ext ⟨c0, c1, c2⟩ hb
      replace HE := Lib.hid (HE.out.trans hb)
      replace R1 := Lib.hid (R1.out.ext hb)
      replace R2 := Lib.hid (R2.out.ext hb)
      replace R3 := Lib.hid (R3.out.ext hb)
      replace R4 := Lib.hid (R4.out.ext hb)
      clear hb
      go_wp2_with fail
      refine (part53 _ _ _ _ _ R1.out R2.out HP1.out).mono ?_
      rintro e v8 ⟨rfl, hb⟩
      replace HE := Lib.hid (HE.out.trans hb)
      replace R3 := Lib.hid (R3.out.ext hb)
      replace R4 := Lib.hid (R4.out.ext hb); clear hb
      go_wp2_with fail
      refine (part53 _ _ _ _ _ R4.out R3.out HP2.out).mono ?_
      rintro e v9 ⟨rfl, hb⟩
      replace HE := Lib.hid (HE.out.trans hb); clear hb
      go_wp2_with fail
      refine (works18 _).mono ?_
      rintro e v10 ⟨rfl, hb⟩
      replace HE := Lib.hid (HE.out.trans hb); clear hb
      go_wp2
      go_ret
      exact ⟨rfl, HE.out⟩
end Go.Proofs.Ytlgdnbpboonhdaa
