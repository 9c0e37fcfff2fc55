/- GapTurned, by its contract. -/
import Derived.Test.YtclcippfodjfeaaL2
import Derived.Test.YtclcippfodjfeaaL12
import Derived.Deep.LoopGhost
namespace Go.Proofs.Ytclcippfodjfeaa
open Go.RowKit
set_option linter.unusedVariables false
set_option linter.unusedSimpArgs false
def tnTo (K : Int) (rev : List Int) (k : Nat) : List Int := (List.range rev.length).map fun i => if i < k then K - rAt rev i else rAt rev i
theorem tnTo_len (K : Int) (rev : List Int) (k : Nat) : (tnTo K rev k).length = rev.length := by simp [tnTo]
theorem tnTo_get {K : Int} {rev : List Int} {k i : Nat} (hi : i < rev.length) : tAt (tnTo K rev k) i = if i < k then K - rAt rev i else rAt rev i := by
  unfold tAt tnTo
  rw [List.getD_eq_getElem?_getD, List.getElem?_map, List.getElem?_range hi]; rfl
theorem tnTo_set {K : Int} {rev : List Int} {k : Nat} (hk : k < rev.length) : (tnTo K rev k).set k (K - rAt rev k) = tnTo K rev (k + 1) := by
  refine List.ext_getElem? fun i => ?_
  rw [List.getElem?_set]
  unfold tnTo
  rw [List.getElem?_map, List.getElem?_map, List.length_map, List.length_range]
  by_cases hi : i < rev.length
  · rw [List.getElem?_range hi]
    by_cases e : k = i
    · subst e; simp [hk]
    · rw [if_neg e]
      by_cases h : i < k
      · simp [h, show i < k + 1 by omega]
      · simp [h, show ¬ i < k + 1 by omega]
  · rw [if_neg (by omega), List.getElem?_eq_none (by simp; omega)]; rfl
theorem tnTo_zero (K : Int) (rev : List Int) : tnTo K rev 0 = rev := by
  refine List.ext_getElem? fun i => ?_
  unfold tnTo
  rw [List.getElem?_map]
  by_cases hi : i < rev.length
  · rw [List.getElem?_range hi, List.getElem?_eq_getElem hi]
    simp [rAt, hi]
  · rw [List.getElem?_eq_none (by simp; omega), List.getElem?_eq_none (by omega)]; rfl
theorem tnTo_all (K : Int) (row : List Int) : tnTo K row.reverse row.length = backN K row := by
  refine List.ext_getElem? fun i => ?_
  unfold tnTo backN
  rw [List.getElem?_map, List.getElem?_map]
  by_cases hi : i < row.length
  · have h2 : i < row.reverse.length := by rw [List.length_reverse]; exact hi
    rw [List.getElem?_range h2, List.getElem?_eq_getElem h2]
    have : rAt row.reverse i = row.reverse[i] := by unfold rAt; rw [List.getD_eq_getElem?_getD, List.getElem?_eq_getElem h2]; rfl
    simp only [Option.map_some, if_pos hi, this]
  · rw [List.getElem?_eq_none (by simp; omega), List.getElem?_eq_none (by simp; omega)]; rfl
theorem chk_back {row : List Int} (hc : chkR row = 0) : chkR (backN 1099511627777 row) = 0 := by
  obtain ⟨h1, h2⟩ := chkR_ok.1 hc
  refine chkR_ok.2 ⟨by rw [back_len]; exact h1, fun x hx => ?_⟩
  unfold backN at hx
  obtain ⟨z, hz, rfl⟩ := List.mem_map.1 hx
  have := h2 z (List.mem_reverse.1 hz)
  omega
theorem shapeI_back (K : Int) (row : List Int) : shapeI (backN K row) = shapeI row := by unfold shapeI; rw [shape_back]
theorem tab_back (K : Int) (row : List Int) : (tab (backN K row)).length = (tab row).length := by
  have h1 := congrArg List.length (shape_back K row)
  unfold shapeL at h1
  simpa using h1
/-- The longest run, from its end. -/
def endL (row : List Int) : List Int := natI ((longM row).reverse.map fun i => row.length - 1 - i)
theorem endL_run {row : List Int} (hc : chkR row = 0) : runE (backN 1099511627777 row) (endL row) = 0 :=
  (runE_ok (chk_back hc)).2 ⟨by unfold endL; rw [toN_natI]; exact run_back (long_is row).run, natI_nn _⟩
theorem endL_len (row : List Int) : (endL row).length = (natI (longM row)).length := by unfold endL; rw [natI_len, natI_len]; simp
theorem endL_at {row : List Int} {k j : Nat} {x : Int} (hj : (natI (longM row))[j]? = some x) (hk : k + 1 + j = (natI (longM row)).length) : (endL row)[k]? = some ((row.length : Int) - 1 - x) ∧ 0 ≤ x ∧ x < row.length := by
  rw [natI_len] at hk
  unfold natI at hj
  rw [List.getElem?_map] at hj
  have hjl : j < (longM row).length := by omega
  rw [List.getElem?_eq_getElem hjl] at hj
  simp only [Option.map_some, Option.some.injEq] at hj
  have hm : (longM row)[j] < row.length := (long_is row).run.2 _ (List.getElem_mem hjl)
  refine ⟨?_, by omega, by omega⟩
  unfold endL natI
  rw [List.getElem?_map, List.getElem?_map, List.getElem?_reverse (by omega), show (longM row).length - 1 - k = j from by omega, List.getElem?_eq_getElem hjl]
  simp only [Option.map_some, Option.some.injEq]
  omega
attribute [local go_sem] Oper.semAt_some
set_option maxRecDepth 100000 in
set_option maxHeartbeats 1500000 in
theorem back46o (v : Value) (row : List Int) (w : World) (hr : Reads w v row) :
    Calls Try.prog 46 #[v] w fun e w' => ∃ u, e = .returned u ∧ OwnI 2 w.heap.size w' u row.reverse ∧ Ext w w' := by
  obtain ⟨hl, ar, cap, rfl⟩ := hr.shape
  obtain ⟨n, hn⟩ : ∃ n, n = row.length := ⟨_, rfl⟩
  rw [← hn] at hr hl ⊢
  have HR := Lib.hid hr; have HN := Lib.hid hn
  have hw0 : IntKind.i64.wrap ((n : Int) - 1) = (n : Int) - 1 := wrapi64 _ (by omega) (by omega)
  clear hr hn
  go_enter Try.func46, Try.ntmps46
  go_wp2
  clear hw0
  go_loopg [3, 4] n (fun g v i wr => ∃ k : Nat, k + g = n ∧ i = .int .i64 ((n : Int) - 1 - (k : Int)) ∧ Hid (OwnI 2 w.heap.size wr v (row.reverse.take k)) ∧ Hid (Ext w wr))
  case atStart => exact ⟨0, by omega, by simp, OwnI.nil _ _ _, Ext.refl _⟩
  case round =>
    obtain ⟨k, hkg, rfl, hO, hE⟩ := hrel
    by_cases hlt : k < n
    · obtain ⟨j, hj⟩ : ∃ j : Nat, j + 1 + k = n := ⟨n - 1 - k, by omega⟩
      obtain ⟨b1, off1, x, rfl, hx, hcx⟩ := (HR.out.ext hE.out).at (show j < row.length by rw [← HN.out]; omega)
      have hxr : row.reverse[k]? = some x := by
        rw [List.getElem?_reverse (by rw [← HN.out]; exact hlt), show row.length - 1 - k = j by rw [← HN.out]; omega]; exact hx
      have HPS := Lib.hid (take_snoc hxr)
      have hij : (n : Int) - 1 - (k : Int) = (j : Int) := by omega
      rw [hij]
      have hja : (0 : Int) ≤ (j : Int) := by omega
      have hjb : (j : Int) < (n : Int) := by omega
      have hw1 : IntKind.i64.wrap ((j : Int) - 1) = (j : Int) - 1 := wrapi64 _ (by omega) (by omega)
      have hql : (row.reverse.take k).length ≤ 5000 := by rw [List.length_take, List.length_reverse, ← HN.out]; omega
      clear hx hxr
      go_wp2_with (at_builtin; first
        | (refine appendN Try.underlying22 Try.info2 wr w.heap.size (row.reverse.take k) x _ _ _ wr.heap.size (by simp) rfl rfl rfl hO.out (Below.size hE.out) hql rfl ?_
           intro v6 w6 hO6 hB6
           have HO6 := Lib.hid hO6
           have HE6 := Lib.hid (show Ext w w6 from Below.trans hE.out hB6)
           clear hO6 hB6)
        | fail)
      go_roundg (n - (k + 1))
      case measure => omega
      case rel => exact ⟨k + 1, by omega, by rw [show (n : Int) - 1 - ((k + 1 : Nat) : Int) = (j : Int) - 1 from by omega], (by rw [HPS.out]; exact HO6.out : OwnI _ _ _ _ _), HE6.out⟩
    · obtain rfl : n = k := by omega
      have hij : (n : Int) - 1 - (n : Int) = -1 := by omega
      rw [hij]
      have HRR := Lib.hid (show OwnI 2 w.heap.size wr _ row.reverse from by
        have h1 := hO.out
        rw [List.take_of_length_le (by rw [List.length_reverse, ← HN.out]; exact Nat.le_refl _)] at h1
        exact h1)
      go_wp2
      try rw [Exit.noGoto_ret]
      go_ret
      exact ⟨_, rfl, HRR.out, hE.out⟩
set_option maxRecDepth 100000 in
set_option maxHeartbeats 1500000 in
theorem turned13 (a : Option Addr) (cap : Nat) (row : List Int) (y : Nat) (w : World) (hlen : row.length ≤ cap ∧ cap ≤ 9223372036854775807) (hr : row.length ≤ 5000 → Reads w (.slice a row.length cap) row) (hy : y ≤ 255) :
    Calls Try.prog 13 #[.slice a row.length cap, .int .u8 (y : Int)] w fun e w' => e = .returned (.bool true) ∧ Ext w w' := by
  obtain ⟨n, hn⟩ : ∃ n, n = row.length := ⟨_, rfl⟩
  rw [← hn] at hlen hr ⊢
  have H44 := Lib.hid (fun (W : World) => pockets44 y hy W)
  rcases fine43 a n cap row hn w hr with F | ⟨hc, hR, F⟩
  · have HF := Lib.hid F
    clear F hr hn
    go_enter Try.func13, Try.ntmps13
    have HE := Lib.hid (Ext.refl w)
    go_wp2_with fail
    refine (HF.out _ HE.out).mono ?_
    rintro e w1 ⟨rfl, rfl⟩
    go_wp2_with fail
    refine (works18 _).mono ?_
    rintro e w99 ⟨rfl, hb⟩
    have HE := Lib.hid (HE.out.trans hb)
    clear hb
    go_wp2
    go_ret
    exact ⟨rfl, HE.out⟩
  have HF := Lib.hid F
  clear F hr
  obtain ⟨hn30, -⟩ := chkR_ok.1 hc
  rw [← hn] at hn30
  obtain ⟨m, hm, hm2⟩ : ∃ m, m = y % 31 ∧ m ≤ 30 := ⟨_, rfl, by omega⟩
  rw [← hm] at H44
  have HC := Lib.hid hc; have HN := Lib.hid hn; have HR := Lib.hid hR
  have HB := Lib.hid (chkR_ok.1 hc).2
  have C46 := Lib.hid (fun (W : World) (h : Ext w W) => back46o _ row W (hR.ext h))
  clear hm hc hn hR
  go_enter Try.func13, Try.ntmps13
  have HE := Lib.hid (Ext.refl w)
  go_wp2_with fail
  refine (HF.out _ HE.out).mono ?_
  rintro e w1 ⟨rfl, rfl⟩
  go_wp2_with fail
  refine (C46.out _ HE.out).mono ?_
  rintro e w2 ⟨u, rfl, hx, hb⟩
  have HE0 := Lib.hid HE.out
  have HE := Lib.hid (HE.out.trans hb)
  obtain ⟨ua, uc, rfl, -⟩ := hx.shape
  have hul : row.reverse.length = n := by rw [List.length_reverse, ← HN.out]
  rw [hul] at hx ⊢
  have HX := Lib.hid hx
  clear hb hx C46
  go_wp2
  go_loopg [6] n (fun g i wr => ∃ k : Nat, k + g = n ∧ i = .int .i64 (k : Int) ∧ Hid (OwnI 2 w.heap.size wr (.slice ua n uc) (tnTo 1099511627777 row.reverse k)) ∧ Hid (Ext w wr))
  case atStart => exact ⟨0, by omega, rfl, (by rw [tnTo_zero]; exact HX.out : OwnI _ _ _ _ _), HE.out⟩
  case round =>
    obtain ⟨k, hkg, rfl, hO, hE⟩ := hrel
    by_cases hlt : k < n
    · have hka : (0 : Int) ≤ (k : Int) := by omega
      have hkb : (k : Int) < (n : Int) := by omega
      have hkr : k < row.reverse.length := by rw [hul]; exact hlt
      obtain ⟨g, rfl, hg1, hg2, hcell, hfr, hset⟩ := hO.out.at (p := k) (by rw [tnTo_len]; exact hkr)
      rw [tnTo_get hkr, if_neg (by omega)] at hcell
      have hnx := hset (1099511627777 - rAt row.reverse k)
      rw [tnTo_set hkr] at hnx
      obtain ⟨x, hx⟩ : ∃ x, x = rAt row.reverse k := ⟨_, rfl⟩
      rw [← hx] at hcell hnx
      have hbx : 1 ≤ x ∧ x ≤ 1099511627776 := by
        have : x ∈ row := by
          rw [hx]; unfold rAt
          rw [List.getD_eq_getElem?_getD, List.getElem?_eq_getElem hkr]
          exact List.mem_reverse.1 (List.getElem_mem hkr)
        exact HB.out x this
      have wx : IntKind.i64.wrap (1099511627777 - x) = 1099511627777 - x := wrapi64 _ (by omega) (by omega)
      have HNX := Lib.hid hnx
      have HEX := Lib.hid (hE.out.set (b := g) (by have := HE0.out.size; omega) k (.int .i64 (1099511627777 - x)))
      have hrc := HR.out.cap
      clear hx hset hnx hO hkr
      go_wp2
      go_roundg (n - (k + 1))
      case measure => omega
      case rel => exact ⟨k + 1, by omega, by go_num, HNX.out, HEX.out⟩
    · obtain rfl : k = n := by omega
      have HRX := Lib.hid (show Reads wr (.slice ua k uc) (backN 1099511627777 row) from by
        have h1 := hO.out.reads (by rw [tnTo_len, hul]; omega)
        rw [HN.out, tnTo_all, ← HN.out] at h1
        exact h1)
      have HE := Lib.hid hE.out
      obtain ⟨W, hW⟩ : ∃ W, W = wr := ⟨_, rfl⟩
      subst hW
      clear hO hE HX hul
      have C27a := Lib.hid (fun (X : World) (h : Ext W X) => (by
        have := listRef_of (shape27 _ row X (HR.out.ext (HE.out.trans h)))
        rw [HC.out] at this; exact this))
      have C27b := Lib.hid (fun (X : World) (h : Ext W X) => (by
        have := listRef_of (shape27 _ _ X (HRX.out.ext h))
        rw [chk_back HC.out, shapeI_back] at this; exact this))
      have C23a := Lib.hid (fun (X : World) (h : Ext W X) => most_of HC.out (m := m) hm2 _ X (HR.out.ext (HE.out.trans h)))
      have C23b := Lib.hid (fun (X : World) (h : Ext W X) => (by
        have := most_of (chk_back HC.out) (m := m) hm2 _ X (HRX.out.ext h)
        rw [sumk_back] at this; exact this))
      have C33a := Lib.hid (fun (X : World) (h : Ext W X) => (show Calls Try.prog 33 _ X fun e w' => ∃ b q cp, q = (tab row).length ∧ e = .returned (.tuple #[.slice b q cp, .int .i64 0]) ∧ Reads w' (.slice b q cp) (natI (longM row)) ∧ Ext X w' from by
        have := listRef_of (run33 _ row X (HR.out.ext (HE.out.trans h)))
        rw [HC.out] at this
        exact this.mono fun e w' ⟨b, q, cp, h1, h2, h3⟩ => ⟨b, q, cp, by rw [h2.len, errL_ok, longI_len], h1, h2, h3⟩))
      have C33b := Lib.hid (fun (X : World) (h : Ext W X) => (show Calls Try.prog 33 _ X fun e w' => ∃ b q cp, q = (tab row).length ∧ e = .returned (.tuple #[.slice b q cp, .int .i64 0]) ∧ Ext X w' from by
        have := listRef_of (run33 _ _ X (HRX.out.ext h))
        rw [chk_back HC.out] at this
        exact this.mono fun e w' ⟨b, q, cp, h1, h2, h3⟩ => ⟨b, q, cp, by rw [h2.len, errL_ok, longI_len, tab_back], h1, h3⟩))
      generalize sumk m (tab row) = mv at C23a C23b
      generalize (tab row).length = f at C33a C33b
      generalize shapeI row = sh at C27a C27b
      have HZ := Lib.hid (Ext.refl W)
      go_wp2_with fail
      refine (H44.out _).mono ?_
      rintro e w4 ⟨rfl, rfl⟩
      go_wp2_with fail
      refine (C27a.out _ HZ.out).mono ?_
      rintro e w5 ⟨pa, pn, pc, rfl, hx, hb⟩
      have HZ := Lib.hid (HZ.out.trans hb)
      have HP := Lib.hid hx
      clear hx
      clear hb
      go_wp2_with fail
      refine (C27b.out _ HZ.out).mono ?_
      rintro e w6 ⟨qa, qn, qc, rfl, hx, hb⟩
      have HZ := Lib.hid (HZ.out.trans hb)
      have HP := Lib.hid (HP.out.ext hb)
      have HQ := Lib.hid hx
      clear hx
      clear hb
      go_wp2_with fail
      refine (C23a.out _ HZ.out).mono ?_
      rintro e w7 ⟨rfl, hb⟩
      have HZ := Lib.hid (HZ.out.trans hb)
      have HP := Lib.hid (HP.out.ext hb)
      have HQ := Lib.hid (HQ.out.ext hb)
      clear hb
      go_wp2_with fail
      refine (C23b.out _ HZ.out).mono ?_
      rintro e w8 ⟨rfl, hb⟩
      have HZ := Lib.hid (HZ.out.trans hb)
      have HP := Lib.hid (HP.out.ext hb)
      have HQ := Lib.hid (HQ.out.ext hb)
      clear hb
      go_wp2_with fail
      refine (C33a.out _ HZ.out).mono ?_
      rintro e w9 ⟨ra, rn, rc, rfl, rfl, hx, hb⟩
      have HZ := Lib.hid (HZ.out.trans hb)
      have HP := Lib.hid (HP.out.ext hb)
      have HQ := Lib.hid (HQ.out.ext hb)
      have HL := Lib.hid hx
      clear hx
      clear hb
      go_wp2_with fail
      refine (C33b.out _ HZ.out).mono ?_
      rintro e w10 ⟨sa, sn, sc, rfl, rfl, hb⟩
      have HZ := Lib.hid (HZ.out.trans hb)
      have HP := Lib.hid (HP.out.ext hb)
      have HQ := Lib.hid (HQ.out.ext hb)
      have HL := Lib.hid (HL.out.ext hb)
      clear hb
      go_wp2_with fail
      refine (wI _ _ _ _ HP.out HQ.out).mono ?_
      rintro e w11 ⟨rfl, hb⟩
      have HZ := Lib.hid (HZ.out.trans hb)
      have HL := Lib.hid (HL.out.ext hb)
      clear hb
      have hll : (natI (longM row)).length = sn := HL.out.len.symm
      have hrn : sn ≤ 30 := by
        have h1 := tab_le row
        rw [← longI_len, hll, ← HN.out] at h1
        omega
      have hw0 : IntKind.i64.wrap ((sn : Int) - 1) = (sn : Int) - 1 := wrapi64 _ (by omega) (by omega)
      have hwk : IntKind.i64.wrap ((k : Int) - 1) = (k : Int) - 1 := wrapi64 _ (by omega) (by omega)
      have HLL := Lib.hid hll
      have HU := Lib.hid (HRX.out.ext HZ.out)
      have HEW := Lib.hid (HE.out.trans HZ.out)
      clear C27a C27b C23a C23b C33a C33b HP HQ hll
      go_wp2
      clear hw0
      go_loopg [20, 21] sn (fun g v i wr => ∃ q : Nat, q + g = sn ∧ i = .int .i64 ((sn : Int) - 1 - (q : Int)) ∧ Hid (OwnI 3 w11.heap.size wr v ((endL row).take q)) ∧ Hid (Ext w11 wr))
      case atStart => exact ⟨0, by omega, by simp, OwnI.nil _ _ _, Ext.refl _⟩
      case round =>
        obtain ⟨q, hqg, rfl, hO, hE⟩ := hrel
        by_cases hlt : q < sn
        · obtain ⟨j, hj⟩ : ∃ j : Nat, j + 1 + q = sn := ⟨sn - 1 - q, by omega⟩
          obtain ⟨b1, off1, x, rfl, hx, hcx⟩ := (HL.out.ext hE.out).at (show j < (natI (longM row)).length by rw [HLL.out]; omega)
          obtain ⟨he, hx0, hx1⟩ := endL_at (k := q) hx (by rw [HLL.out]; omega)
          rw [← HN.out] at he hx1
          have HPS := Lib.hid (take_snoc he)
          have hij : (sn : Int) - 1 - (q : Int) = (j : Int) := by omega
          rw [hij]
          have hja : (0 : Int) ≤ (j : Int) := by omega
          have hjb : (j : Int) < (sn : Int) := by omega
          have hw1 : IntKind.i64.wrap ((j : Int) - 1) = (j : Int) - 1 := wrapi64 _ (by omega) (by omega)
          have hw2 : IntKind.i64.wrap ((k : Int) - 1 - x) = (k : Int) - 1 - x := wrapi64 _ (by omega) (by omega)
          have hql : ((endL row).take q).length ≤ 5000 := by rw [List.length_take, endL_len, HLL.out]; omega
          clear hx he
          go_wp2_with (at_builtin; first
            | (refine appendN Try.underlying23 Try.info3 wr w11.heap.size ((endL row).take q) ((k : Int) - 1 - x) _ _ _ wr.heap.size (by simp) rfl rfl rfl hO.out (Below.size hE.out) hql rfl ?_
               intro v6 w6 hO6 hB6
               have HO6 := Lib.hid hO6
               have HE6 := Lib.hid (show Ext w11 w6 from Below.trans hE.out hB6)
               clear hO6 hB6)
            | fail)
          go_roundg (sn - (q + 1))
          case measure => omega
          case rel => exact ⟨q + 1, by omega, by rw [show (sn : Int) - 1 - ((q + 1 : Nat) : Int) = (j : Int) - 1 from by omega], (by rw [HPS.out]; exact HO6.out : OwnI _ _ _ _ _), HE6.out⟩
        · obtain rfl : sn = q := by omega
          have hij : (sn : Int) - 1 - (sn : Int) = -1 := by omega
          rw [hij]
          have HT := Lib.hid (show Reads wr _ (endL row) from by
            have h1 := hO.out.reads (by rw [List.length_take, endL_len, HLL.out]; omega)
            rw [List.take_of_length_le (by rw [endL_len, HLL.out]; exact Nat.le_refl _)] at h1
            exact h1)
          have HE := Lib.hid (HEW.out.trans hE.out)
          have C35 := Lib.hid (by
            have := checkRun35 _ _ _ _ wr (HU.out.ext hE.out) HT.out
            rw [endL_run HC.out] at this
            exact this)
          obtain ⟨_, va, vc, rfl⟩ := HT.out.shape
          obtain ⟨lt, hlt2⟩ : ∃ lt, lt = (endL row).length := ⟨_, rfl⟩
          rw [← hlt2] at C35 ⊢
          clear hO hE hlt2 HT
          go_wp2_with fail
          refine (C35.out).mono ?_
          rintro e w12 ⟨rfl, hb⟩
          have HE := Lib.hid (HE.out.trans hb)
          clear hb
          go_wp2_with fail
          refine (works18 _).mono ?_
          rintro e w99 ⟨rfl, hb⟩
          have HE := Lib.hid (HE.out.trans hb)
          clear hb
          go_wp2
          go_ret
          exact ⟨rfl, HE.out⟩
end Go.Proofs.Ytclcippfodjfeaa
