/- The reference: Area, by its contract. The reference: Enclosed, by its contract. -/
import Derived.Test.YtppjnpempgpkaaaRC
import Derived.Test.YtppjnpempgpkaaaH7
import Derived.Test.YtppjnpempgpkaaaH6
import Derived.Test.YtppjnpempgpkaaaN3
import Derived.Test.YtppjnpempgpkaaaK1
import Derived.Test.YtppjnpempgpkaaaR6
namespace Go.Proofs.Ytppjnpempgpkaaa
open Go.RowKit Go.Shelf
set_option linter.unusedVariables false
set_option linter.unusedSimpArgs false
attribute [local go_sem] Oper.semAt_some
set_option maxRecDepth 100000 in
set_option maxHeartbeats 1000000 in
theorem rarea_no (X Y : Int) (s : ByteArray) (w : World) (hs5 : s.size ≤ 5000) (h : chkC X Y s ≠ 0) :
    Calls Try.prog 26 #[.agg #[.int .i64 X, .int .i64 Y, .string s]] w fun e w' => e = .returned (.tuple #[.int .i64 0, .bool false, .int .i64 (chkC X Y s)]) ∧ Ext w w' := by
  have E0 := Lib.hid ((Ext.refl w).alloc (.cells #[.int .i64 X, .int .i64 Y, .string s] 40))
  have B0 := Lib.hid (heap_alloc_new w (.cells #[.int .i64 X, .int .i64 Y, .string s] 40))
  have HCC := Lib.hid (fun W => rcheckChain_c X Y s W hs5)
  obtain ⟨x, hx⟩ : ∃ x, chkC X Y s = x := ⟨_, rfl⟩
  rw [hx] at h HCC ⊢
  clear hx
  have hq : (x != 0) = true := by simp [h]
  have hq2 : decide (x = 0) = false := decide_eq_false h
  clear h
  go_enter Try.func26, Try.ntmps26
  go_wp2_with (first | (go_at_call 28; have hgg := HE1.out; clear hgg; refine Calls.mono (HCC.out _) ?_; intro e Y2 h1; obtain ⟨h1, hE⟩ := h1; subst h1; have HE2 := Lib.hid (HE1.out.trans hE); have B2 := Lib.hid (block_ext hE B1.out); clear hE; obtain ⟨d0, d1, d2⟩ := cells3 B2.out) | (go_at_call 28; refine Calls.mono (HCC.out _) ?_; intro e Y1 h1; obtain ⟨h1, hE⟩ := h1; subst h1; have HE1 := Lib.hid (E0.out.trans hE); have B1 := Lib.hid (block_ext hE B0.out); clear hE; obtain ⟨d0, d1, d2⟩ := cells3 B1.out) | fail)
  refine bodyPost_ret (by first | (simp [results, Try.results26, go_sem]; done) | (simp [results, Try.results26, go_sem]; rfl)) rfl ?_
  exact ⟨rfl, HE2.out⟩
set_option maxRecDepth 100000 in
set_option maxHeartbeats 1000000 in
theorem renclosed_no (X Y : Int) (s : ByteArray) (w : World) (hs5 : s.size ≤ 5000) (h : chkC X Y s ≠ 0) :
    Calls Try.prog 24 #[.agg #[.int .i64 X, .int .i64 Y, .string s]] w fun e w' => e = .returned (.tuple #[.slice none 0 0, .int .i64 (chkC X Y s)]) ∧ Ext w w' := by
  have E0 := Lib.hid ((Ext.refl w).alloc (.cells #[.int .i64 X, .int .i64 Y, .string s] 40))
  have B0 := Lib.hid (heap_alloc_new w (.cells #[.int .i64 X, .int .i64 Y, .string s] 40))
  have HCC := Lib.hid (fun W => rcheckChain_c X Y s W hs5)
  obtain ⟨x, hx⟩ : ∃ x, chkC X Y s = x := ⟨_, rfl⟩
  rw [hx] at h HCC ⊢
  clear hx
  have hq : (x != 0) = true := by simp [h]
  have hq2 : decide (x = 0) = false := decide_eq_false h
  clear h
  go_enter Try.func24, Try.ntmps24
  go_wp2_with (first | (go_at_call 28; have hgg := HE1.out; clear hgg; refine Calls.mono (HCC.out _) ?_; intro e Y2 h1; obtain ⟨h1, hE⟩ := h1; subst h1; have HE2 := Lib.hid (HE1.out.trans hE); have B2 := Lib.hid (block_ext hE B1.out); clear hE; obtain ⟨d0, d1, d2⟩ := cells3 B2.out) | (go_at_call 28; refine Calls.mono (HCC.out _) ?_; intro e Y1 h1; obtain ⟨h1, hE⟩ := h1; subst h1; have HE1 := Lib.hid (E0.out.trans hE); have B1 := Lib.hid (block_ext hE B0.out); clear hE; obtain ⟨d0, d1, d2⟩ := cells3 B1.out) | fail)
  refine bodyPost_ret (by first | (simp [results, Try.results24, go_sem]; done) | (simp [results, Try.results24, go_sem]; rfl)) rfl ?_
  exact ⟨rfl, HE2.out⟩

/-- What the area needs of its corners and its sums. -/
structure Arr (n : Nat) (l : List Pt) (A : Nat → Int) : Prop where
  len : l.length = n + 1
  small : n ≤ 200
  on : ∀ q ∈ l, onB q
  zero : A 0 = 0
  step : ∀ (k : Nat) (q t : Pt), l[k]? = some q → l[k + 1]? = some t → A (k + 1) = A k + t.1 * (t.2 - q.2)
  one : ∀ (k : Nat) (q t : Pt), l[k]? = some q → l[k + 1]? = some t → -1 ≤ t.2 - q.2 ∧ t.2 - q.2 ≤ 1
def ArK (p : Pt) (ks : List Nat) (k : Nat) : Int := sm (fun s => s.1.1 * mvy s.2) ((sts p ks).take k)
theorem arr_of (p : Pt) (ks : List Nat) (hk : ∀ k ∈ ks, k < 4) (h2 : ks.length ≤ 200) (hb : ∀ q ∈ pts p ks, onB q) : Arr ks.length (pts p ks) (ArK p ks) := by
  have hst : ∀ (k : Nat) (q t : Pt), (pts p ks)[k]? = some q → (pts p ks)[k + 1]? = some t → ∃ j, j < 4 ∧ (sts p ks)[k]? = some (q, j) ∧ t = mv q j := fun k q t hq ht => by
    have hlt : k < ks.length := by
      have := (List.getElem?_eq_some_iff.1 ht).1
      rw [pts_len] at this
      omega
    obtain ⟨j, hj⟩ := get_some hlt
    have h1 := sts_at p ks k j hj
    rw [fin_take_at p ks k (by omega)] at hq
    rw [fin_take_at p ks (k + 1) (by omega), fin_take_succ p hj] at ht
    cases hq; cases ht
    exact ⟨j, hk j (List.mem_of_getElem? hj), h1, rfl⟩
  refine ⟨pts_len p ks, h2, hb, rfl, fun k q t hq ht => ?_, fun k q t hq ht => ?_⟩
  · obtain ⟨j, hj, h1, rfl⟩ := hst k q t hq ht
    unfold ArK
    rw [take_snoc h1, sm_snoc]
    congr 1
    obtain ⟨a, b⟩ := q
    dsimp only
    rcases four hj with rfl | rfl | rfl | rfl <;> simp [mv, mvx, mvy] <;> omega
  · obtain ⟨j, hj, h1, rfl⟩ := hst k q t hq ht
    obtain ⟨a, b⟩ := q
    rcases four hj with rfl | rfl | rfl | rfl <;> simp [mv, mvx, mvy] <;> omega
set_option maxRecDepth 100000 in
set_option maxHeartbeats 4000000 in
theorem rarea_run (X Y : Int) (s : ByteArray) (w : World) (hs5 : s.size ≤ 200) (h : chkC X Y s = 0) (n : Nat) (A : Nat → Int) (hA : Arr n (ptsW (X, Y) (dirs s)) A) :
    Calls Try.prog 26 #[.agg #[.int .i64 X, .int .i64 Y, .string s]] w fun e w' => e = .returned (.tuple #[.int .i64 (max (A n) (-A n)), .bool (decide (0 < A n)), .int .i64 0]) ∧ Ext w w' := by
  have E0 := Lib.hid ((Ext.refl w).alloc (.cells #[.int .i64 X, .int .i64 Y, .string s] 40))
  have B0 := Lib.hid (heap_alloc_new w (.cells #[.int .i64 X, .int .i64 Y, .string s] 40))
  have HCC := Lib.hid (fun W => rcheckChain_c X Y s W (by omega))
  have HCO := Lib.hid (fun W => rcorners_c X Y s W hs5)
  rw [h] at HCC
  obtain ⟨l, hl⟩ : ∃ l, l = ptsW (X, Y) (dirs s) := ⟨_, rfl⟩
  rw [← hl] at hA HCO
  clear hl h hs5
  have HA := Lib.hid hA
  obtain ⟨N, hN⟩ : ∃ N, N = l.length := ⟨_, rfl⟩
  have hNn : N = n + 1 := by rw [hN, hA.len]
  have hn2 := hA.small
  have HN := Lib.hid hN
  clear hA hN
  go_enter Try.func26, Try.ntmps26
  go_wp2_with (first | (go_at_call 28; refine Calls.mono (HCC.out _) ?_; intro e Y1 h1; obtain ⟨h1, hE⟩ := h1; subst h1; have HE1 := Lib.hid (E0.out.trans hE); have B1 := Lib.hid (block_ext hE B0.out); clear hE; obtain ⟨d0, d1, d2⟩ := cells3 B1.out) | (go_at_call 38; refine Calls.mono (HCO.out _) ?_; intro e w5 h1; obtain ⟨v, h1, ho, hE5⟩ := h1; subst h1; have HO := Lib.hid (ho.weak HE1.out.size); have HE5 := Lib.hid (HE1.out.trans hE5); clear ho hE5; obtain ⟨av, cap, hv⟩ := HO.out.shape; subst hv; rw [← HN.out] at HO ⊢) | fail)
  have hN63 : N ≤ 9223372036854775806 := by omega
  clear d0 d1 d2
  go_loopw [6, 7] (fun v i wr => ∃ k : Nat, k ≤ n ∧ i = .int .i64 ((k : Int) + 1) ∧ v = .int .i64 (A k) ∧ Hid (-(8 * (k : Int)) ≤ A k ∧ A k ≤ 8 * (k : Int)) ∧ Hid (OwnD w.heap.size wr (.slice av N cap) l) ∧ Hid (Ext w wr)) (fun v i wr => N - (intOf i).toNat)
  case atStart => exact ⟨0, Nat.zero_le _, by go_num, by rw [HA.out.zero], Lib.hid (by rw [HA.out.zero]; omega), HO, HE5⟩
  case round =>
    clear HO HE5 HE1 B1 HCO HCC E0 B0
    obtain ⟨k, hk, rfl, rfl, hbd, hO, hE⟩ := hrel
    by_cases hlt : k < n
    · obtain ⟨⟨fx, fy⟩, hq⟩ := get_some (xs := l) (k := k) (by rw [HA.out.len]; omega)
      obtain ⟨⟨tx, ty⟩, ht⟩ := get_some (xs := l) (k := k + 1) (by rw [HA.out.len]; omega)
      have hst := HA.out.step k _ _ hq ht
      have h1 := HA.out.one k _ _ hq ht
      have hon := HA.out.on _ (List.mem_of_getElem? ht)
      obtain ⟨g, cap', e1, -, -, d0, d1⟩ := hO.out.at ht
      injection e1 with e2 e3 e4
      subst e2
      clear e3 e4
      obtain ⟨g', cap'', e1, -, -, d2, d3⟩ := hO.out.at hq
      injection e1 with e2 e3 e4
      cases e2
      clear e3 e4
      unfold onB at hon
      dsimp only at d0 d1 d2 d3 hst h1 hon
      obtain ⟨d, hd⟩ : ∃ d : Int, d = ty - fy := ⟨_, rfl⟩
      rw [← hd] at hst h1
      obtain ⟨pr, hpr⟩ : ∃ pr : Int, pr = tx * d := ⟨_, rfl⟩
      have hprb : -8 ≤ pr ∧ pr ≤ 8 := by
        have hd3 : d = -1 ∨ d = 0 ∨ d = 1 := by omega
        rcases hd3 with e | e | e <;> rw [hpr, e] <;> omega
      rw [← hpr] at hst
      have hb := hbd.out
      obtain ⟨ak, hak⟩ : ∃ ak, ak = A k := ⟨_, rfl⟩
      rw [← hak] at hst hb ⊢
      have HST := Lib.hid hst
      have HB2 := Lib.hid (show -(8 * ((k + 1 : Nat) : Int)) ≤ A (k + 1) ∧ A (k + 1) ≤ 8 * ((k + 1 : Nat) : Int) from by rw [hst]; omega)
      have W1 := Lib.hid (show IntKind.i64.wrap (ty - fy) = d from by rw [← hd]; exact wrapi64 _ (by omega) (by omega))
      have W2 := Lib.hid (show IntKind.i64.wrap (tx * d) = pr from by rw [← hpr]; exact wrapi64 _ (by omega) (by omega))
      have W3 := Lib.hid (show IntKind.i64.wrap (ak + pr) = ak + pr from wrapi64 _ (by omega) (by omega))
      have W4 := Lib.hid (show IntKind.i64.wrap ((k : Int) + 1 - 1) = (k : Int) ∧ IntKind.i64.wrap (k : Int) = (k : Int) from ⟨by rw [show (k : Int) + 1 - 1 = k from by omega]; exact wrapi64 _ (by omega) (by omega), wrapi64 _ (by omega) (by omega)⟩)
      have hka : (0 : Int) ≤ (k : Int) := by omega
      have hkb : (k : Int) < (N : Int) := by omega
      have hkc : (0 : Int) ≤ (k : Int) + 1 := by omega
      have hkd : (k : Int) + 1 < (N : Int) := by omega
      have hke : ((k : Int) + 1).toNat = k + 1 := by omega
      have hkf : (k : Int).toNat = k := by omega
      clear hq ht hst h1 hon hd hpr hprb hb hak
      have w1 := W1.out; have w2 := W2.out; have w3 := W3.out
      obtain ⟨w4, w5⟩ := W4.out
      go_upto_region 8 with fail
      go_quiet (fail)
      clear d0 d1 d2 d3 w1 w2 w3 w4 w5
      go_wp2
      go_roundw
      case rel => exact ⟨k + 1, by omega, by go_num, by rw [HST.out], HB2, Lib.hid (hO.out.ext ((Ext.refl _).drewN _)), Lib.hid (hE.out.drewN _)⟩
      case measure => simp [intOf]; omega
    · obtain rfl : k = n := by omega
      have hb := hbd.out
      obtain ⟨ak, hak⟩ : ∃ ak, ak = A k := ⟨_, rfl⟩
      rw [← hak] at hb ⊢
      have W1 := Lib.hid (show IntKind.i64.wrap (-ak) = -ak from wrapi64 _ (by omega) (by omega))
      have W2 := Lib.hid (show wrap64 (-ak) = -ak from by rw [wrap_eq]; exact W1.out)
      have HMX := Lib.hid (show (if ak < -ak then -ak else ak) = max ak (-ak) from by split <;> omega)
      clear hbd
      have hakn : -5000 ≤ ak ∧ ak ≤ 5000 := by omega
      have HAK := Lib.hid hak
      clear hb hak
      have w1 := W1.out; have w2 := W2.out
      have HM1 := Lib.hid (show ak < -ak → max ak (-ak) = -ak from fun h => by omega)
      have HM2 := Lib.hid (show -ak ≤ ak → max ak (-ak) = ak from fun h => by omega)
      go_wp2
      all_goals
        refine bodyPost_ret (by first | (simp [results, Try.results26, go_sem]; done) | (simp [results, Try.results26, go_sem]; rfl)) rfl ?_
        refine ⟨?_, hE.out⟩
        rw [← HAK.out]
        first | rw [HM1.out (by assumption)] | rw [HM2.out (by assumption)]
theorem rarea_ok (X Y : Int) (s : ByteArray) (w : World) (h : chkC X Y s = 0) :
    Calls Try.prog 26 #[.agg #[.int .i64 X, .int .i64 Y, .string s]] w fun e w' => e = .returned (.tuple #[.int .i64 ((encl (sts (X, Y) (dirs s))).length : Int), .bool (lftB (sts (X, Y) (dirs s))), .int .i64 0]) ∧ Ext w w' := by
  obtain ⟨h1, h2, h3, h4, h5⟩ := chk0 h
  have hlen := dirs_len s
  have hlp := clsd_lp h2 (by omega) h5
  have hA := arr_of (X, Y) (dirs s) h2 (by omega) h4
  rw [← h3] at hA
  obtain ⟨q1, q2, -⟩ := hlp.area (on_sts h4)
  have hall : ArK (X, Y) (dirs s) (dirs s).length = area (sts (X, Y) (dirs s)) := by
    unfold ArK area; rw [List.take_of_length_le (by rw [sts_len]; omega)]
  have hr := rarea_run X Y s w (by omega) h _ _ hA
  rw [hall, ← q1, ← q2] at hr
  exact hr
end Go.Proofs.Ytppjnpempgpkaaa
namespace Go.Proofs.Ytppjnpempgpkaaa
open Go.RowKit Go.Shelf
set_option linter.unusedVariables false
set_option linter.unusedSimpArgs false
attribute [local go_sem] Oper.semAt_some

structure Crr (n : Nat) (l : List Pt) (C : Nat → Nat → Nat) : Prop where
  len : l.length = n + 1
  small : n ≤ 200
  on : ∀ q ∈ l, onB q
  zero : ∀ c, C c 0 = 0
  step : ∀ (k : Nat) (q t : Pt), l[k]? = some q → l[k + 1]? = some t → ∀ c, C c (k + 1) = C c k + (if t.1 = q.1 ∧ cx c < t.1 ∧ min t.2 q.2 = cy c then 1 else 0)
def CrK (p : Pt) (ks : List Nat) (c k : Nat) : Nat := (sm (crs c) ((sts p ks).take k)).toNat
theorem crs_pos (c : Nat) : ∀ l : List Stk, 0 ≤ sm (crs c) l := fun l => (crs_mod c l).2
theorem crr_of (p : Pt) (ks : List Nat) (hk : ∀ k ∈ ks, k < 4) (h2 : ks.length ≤ 200) (hb : ∀ q ∈ pts p ks, onB q) : Crr ks.length (pts p ks) (CrK p ks) := by
  refine ⟨pts_len p ks, h2, hb, fun c => rfl, fun k q t hq ht c => ?_⟩
  have hlt : k < ks.length := by
    have := (List.getElem?_eq_some_iff.1 ht).1
    rw [pts_len] at this
    omega
  obtain ⟨j, hj⟩ := get_some hlt
  have h1 := sts_at p ks k j hj
  have hj4 := hk j (List.mem_of_getElem? hj)
  rw [fin_take_at p ks k (by omega)] at hq
  rw [fin_take_at p ks (k + 1) (by omega), fin_take_succ p hj] at ht
  cases hq; cases ht
  unfold CrK
  rw [take_snoc h1, sm_snoc]
  have h0 := crs_pos c ((sts p ks).take k)
  generalize sm (crs c) ((sts p ks).take k) = v at *
  generalize fin p (ks.take k) = q at *
  obtain ⟨a, b⟩ := q
  have : crs c ((a, b), j) = if (mv (a, b) j).1 = a ∧ cx c < (mv (a, b) j).1 ∧ min (mv (a, b) j).2 b = cy c then 1 else 0 := by
    unfold crs
    dsimp only
    rcases four hj4 with rfl | rfl | rfl | rfl <;> simp [mv, mvx, mvy] <;> (repeat' split) <;> omega
  rw [this]
  dsimp only
  split <;> omega
set_option maxRecDepth 100000 in
set_option maxHeartbeats 4000000 in
theorem renclosed_run (X Y : Int) (s : ByteArray) (w : World) (hs5 : s.size ≤ 200) (h : chkC X Y s = 0) (n : Nat) (C : Nat → Nat → Nat) (hC : Crr n (ptsW (X, Y) (dirs s)) C) :
    Calls Try.prog 24 #[.agg #[.int .i64 X, .int .i64 Y, .string s]] w fun e w' => ∃ u, e = .returned (.tuple #[u, .int .i64 0]) ∧ OwnI 3 w.heap.size w' u (natI ((List.range 64).filter fun c => decide (C c n % 2 = 1))) ∧ Ext w w' := by
  have E0 := Lib.hid ((Ext.refl w).alloc (.cells #[.int .i64 X, .int .i64 Y, .string s] 40))
  have B0 := Lib.hid (heap_alloc_new w (.cells #[.int .i64 X, .int .i64 Y, .string s] 40))
  have HCC := Lib.hid (fun W => rcheckChain_c X Y s W (by omega))
  have HCO := Lib.hid (fun W => rcorners_c X Y s W hs5)
  rw [h] at HCC
  obtain ⟨l, hl⟩ : ∃ l, l = ptsW (X, Y) (dirs s) := ⟨_, rfl⟩
  rw [← hl] at hC HCO
  clear hl h hs5
  have HA := Lib.hid hC
  obtain ⟨N, hN⟩ : ∃ N, N = l.length := ⟨_, rfl⟩
  have hNn : N = n + 1 := by rw [hN, hC.len]
  have hn2 := hC.small
  have HN := Lib.hid hN
  clear hC hN
  go_enter Try.func24, Try.ntmps24
  go_wp2_with (first | (go_at_call 28; refine Calls.mono (HCC.out _) ?_; intro e Y1 h1; obtain ⟨h1, hE⟩ := h1; subst h1; have HE1 := Lib.hid (E0.out.trans hE); have B1 := Lib.hid (block_ext hE B0.out); clear hE; obtain ⟨d0, d1, d2⟩ := cells3 B1.out) | (go_at_call 38; refine Calls.mono (HCO.out _) ?_; intro e w5 h1; obtain ⟨v, h1, ho, hE5⟩ := h1; subst h1; have HO := Lib.hid (ho.weak HE1.out.size); have HE5 := Lib.hid (HE1.out.trans hE5); clear ho hE5; obtain ⟨av, cap, hv⟩ := HO.out.shape; subst hv; rw [← HN.out] at HO ⊢) | fail)
  have hN63 : N ≤ 9223372036854775806 := by omega
  obtain ⟨p0, hp0⟩ := get_some (xs := l) (k := 0) (by rw [HA.out.len]; omega)
  obtain ⟨g, cap', e1, -, -, -, -⟩ := HO.out.at hp0
  injection e1 with e2 e3 e4
  subst e2
  have HCE := Lib.hid (show ∀ (i : Nat) (q : Pt), l[i]? = some q → w5.cell? ⟨g, i * 2, none⟩ = some (.int .i64 q.1) ∧ w5.cell? ⟨g, i * 2 + 1, none⟩ = some (.int .i64 q.2) from fun i q hq => by
    obtain ⟨g', cap'', e1, -, -, q1, q2⟩ := HO.out.at hq
    injection e1 with e2 e3 e4
    cases e2
    exact ⟨q1, q2⟩)
  clear e3 e4 hp0 p0 HO HCO HCC d0 d1 d2 HE1 B1 E0 B0
  go_loopw [5, 6] (fun u i wr => ∃ c : Nat, c ≤ 64 ∧ i = .int .i64 (c : Int) ∧ Hid (OwnI 3 w5.heap.size wr u (natI ((List.range c).filter fun c => decide (C c n % 2 = 1)))) ∧ Hid (Ext w5 wr)) (fun u i wr => 64 - (intOf i).toNat)
  case atStart => exact ⟨0, Nat.zero_le _, rfl, Lib.hid (OwnI.nil _ _ _), Lib.hid (Ext.refl _)⟩
  case round =>
    obtain ⟨c, hc, rfl, hO, hE⟩ := hrel
    by_cases hlt : c < 64
    · have hca : (c : Int) < 64 := by omega
      have et : (c : Int).tmod 8 = ((c % 8 : Nat) : Int) := (Int.ofNat_tmod c 8).symm
      have ed : (c : Int).tdiv 8 = ((c / 8 : Nat) : Int) := (Int.ofNat_tdiv c 8).symm
      obtain ⟨x, hx⟩ : ∃ x : Nat, x = c % 8 := ⟨_, rfl⟩
      obtain ⟨y, hy⟩ : ∃ y : Nat, y = c / 8 := ⟨_, rfl⟩
      rw [← hx] at et
      rw [← hy] at ed
      have HXC := Lib.hid (show cx c = (x : Int) from by unfold cx; rw [hx])
      have HYC := Lib.hid (show cy c = (y : Int) from by unfold cy; rw [hy])
      have hx8 : x < 8 := by omega
      have hy8 : y < 8 := by omega
      have wx : IntKind.i64.wrap (x : Int) = (x : Int) := wrapi64 _ (by omega) (by omega)
      have wy : IntKind.i64.wrap (y : Int) = (y : Int) := wrapi64 _ (by omega) (by omega)
      have HWX := Lib.hid (show wrap64 (x : Int) = (x : Int) ∧ wrap64 (y : Int) = (y : Int) from ⟨by rw [wrap_eq]; exact wx, by rw [wrap_eq]; exact wy⟩)
      clear hx hy
      obtain ⟨wx2, wy2⟩ := HWX.out
      go_wp2
      go_loopw [9, 10] (fun v i wr' => ∃ k : Nat, k ≤ n ∧ i = .int .i64 ((k : Int) + 1) ∧ v = .int .i64 (C c k : Int) ∧ Hid (Ext wr wr')) (fun v i wr' => n + 1 - (intOf i).toNat)
      case atStart => exact ⟨0, Nat.zero_le _, by go_num, by rw [HA.out.zero]; rfl, Lib.hid (Ext.refl _)⟩
      case round =>
        obtain ⟨k, hk, rfl, rfl, hE2⟩ := hrel
        by_cases hlk : k < n
        · obtain ⟨⟨fx, fy⟩, hq⟩ := get_some (xs := l) (k := k) (by rw [HA.out.len]; omega)
          obtain ⟨⟨tx, ty⟩, ht⟩ := get_some (xs := l) (k := k + 1) (by rw [HA.out.len]; omega)
          have hst := HA.out.step k _ _ hq ht c
          rw [HXC.out, HYC.out] at hst
          obtain ⟨d0, d1⟩ := HCE.out _ _ ht
          obtain ⟨d2, d3⟩ := HCE.out _ _ hq
          have HEE := hE.out.trans hE2.out
          replace d0 := cell_ext HEE d0; replace d1 := cell_ext HEE d1; replace d2 := cell_ext HEE d2; replace d3 := cell_ext HEE d3
          dsimp only at d0 d1 d2 d3 hst
          have hcnt : (C c k : Int) ≤ 100000000 := by
            have : ∀ j, j ≤ n → C c j ≤ j := by
              intro j
              induction j with
              | zero => intro _; rw [HA.out.zero]; exact Nat.le_refl _
              | succ j ih =>
                intro hj
                obtain ⟨q', hq'⟩ := get_some (xs := l) (k := j) (by rw [HA.out.len]; omega)
                obtain ⟨t', ht'⟩ := get_some (xs := l) (k := j + 1) (by rw [HA.out.len]; omega)
                have h1 := HA.out.step j _ _ hq' ht' c
                have h2 := ih (by omega)
                rw [h1]
                split <;> omega
            have := this k hk
            omega
          obtain ⟨ck, hck⟩ : ∃ ck, ck = C c k := ⟨_, rfl⟩
          rw [← hck] at hst hcnt ⊢
          have HST := Lib.hid hst
          have W4 := Lib.hid (show IntKind.i64.wrap ((k : Int) + 1 - 1) = (k : Int) ∧ IntKind.i64.wrap (k : Int) = (k : Int) from ⟨by rw [show (k : Int) + 1 - 1 = k from by omega]; exact wrapi64 _ (by omega) (by omega), wrapi64 _ (by omega) (by omega)⟩)
          have hka : (0 : Int) ≤ (k : Int) := by omega
          have hkb : (k : Int) < ((n + 1 : Nat) : Int) := by omega
          have hkb2 : (k : Int) < (n : Int) + 1 := by omega
          have hkc : (0 : Int) ≤ (k : Int) + 1 := by omega
          have hkd : (k : Int) + 1 < ((n + 1 : Nat) : Int) := by omega
          have hkd2 : (k : Int) + 1 < (n : Int) + 1 := by omega
          have hke : ((k : Int) + 1).toNat = k + 1 := by omega
          have hkf : (k : Int).toNat = k := by omega
          have HMN := Lib.hid (show (if fy < ty then fy else ty) = min ty fy from by split <;> omega)
          clear hq ht hst hck HEE wx wy wx2 wy2 et ed
          obtain ⟨w4, w5'⟩ := W4.out
          have hmn := HMN.out
          obtain ⟨mn, hmm⟩ : ∃ mn, mn = min ty fy := ⟨_, rfl⟩
          rw [← hmm] at hmn HST
          clear hmm
          by_cases t1 : tx = fx
          · have e1 : (tx == fx) = true := by simp [t1]
            have e2 : decide (tx = fx) = true := decide_eq_true t1
            by_cases t2 : (x : Int) < tx
            · have e3 : decide ((x : Int) < tx) = true := decide_eq_true t2
              by_cases t3 : mn = (y : Int)
              · have e4 : (mn == (y : Int)) = true := by simp [t3]
                have e5 : decide (mn = (y : Int)) = true := decide_eq_true t3
                have HSN := Lib.hid (show (C c (k + 1) : Int) = (ck : Int) + 1 from by rw [HST.out, if_pos ⟨t1, t2, t3⟩]; push_cast; rfl)
                clear t1 t2 t3
                go_upto_region 13 with fail
                go_quiet (fail)
                clear d0 d1 d2 d3
                go_wp2
                go_roundw
                case rel => exact ⟨k + 1, by omega, by go_num, by rw [HSN.out], Lib.hid (hE2.out.drewN _)⟩
                case measure => simp [intOf]; omega
              · have e4 : (mn == (y : Int)) = false := by simp [t3]
                have e5 : decide (mn = (y : Int)) = false := decide_eq_false t3
                have HSN := Lib.hid (show (C c (k + 1) : Int) = (ck : Int) from by rw [HST.out, if_neg (fun h => t3 h.2.2)]; rfl)
                clear t1 t2 t3
                go_upto_region 13 with fail
                go_quiet (fail)
                clear d0 d1 d2 d3
                go_wp2
                go_roundw
                case rel => exact ⟨k + 1, by omega, by go_num, by rw [HSN.out], Lib.hid (hE2.out.drewN _)⟩
                case measure => simp [intOf]; omega
            · have e3 : decide ((x : Int) < tx) = false := decide_eq_false t2
              have HSN := Lib.hid (show (C c (k + 1) : Int) = (ck : Int) from by rw [HST.out, if_neg (fun h => t2 h.2.1)]; rfl)
              clear t1 t2
              go_upto_region 13 with fail
              go_quiet (fail)
              clear d0 d1 d2 d3
              go_wp2
              go_roundw
              case rel => exact ⟨k + 1, by omega, by go_num, by rw [HSN.out], Lib.hid (hE2.out.drewN _)⟩
              case measure => simp [intOf]; omega
          · have e1 : (tx == fx) = false := by simp [t1]
            have e2 : decide (tx = fx) = false := decide_eq_false t1
            have HSN := Lib.hid (show (C c (k + 1) : Int) = (ck : Int) from by rw [HST.out, if_neg (fun h => t1 h.1)]; rfl)
            clear t1
            go_upto_region 13 with fail
            go_quiet (fail)
            clear d0 d1 d2 d3
            go_wp2
            go_roundw
            case rel => exact ⟨k + 1, by omega, by go_num, by rw [HSN.out], Lib.hid (hE2.out.drewN _)⟩
            case measure => simp [intOf]; omega
        · obtain rfl : k = n := by omega
          clear wx wy wx2 wy2 et ed HWX
          have HO2 := Lib.hid (hO.out.ext hE2.out)
          have HE2 := Lib.hid (hE.out.trans hE2.out)
          obtain ⟨L, hL⟩ : ∃ L, L = natI ((List.range c).filter fun c => decide (C c k % 2 = 1)) := ⟨_, rfl⟩
          have hLl : L.length ≤ 20000 := by
            rw [hL, natI_len]
            exact Nat.le_trans (List.length_filter_le _ _) (by rw [List.length_range]; omega)
          rw [← hL] at HO2
          obtain ⟨ck, hck⟩ : ∃ ck, ck = C c k := ⟨_, rfl⟩
          have HNX := Lib.hid (show natI ((List.range (c + 1)).filter fun c => decide (C c k % 2 = 1)) = if ck % 2 = 1 then L ++ [(c : Int)] else L from by
            rw [List.range_succ, List.filter_append, hL, hck]
            by_cases h : C c k % 2 = 1 <;> simp [natI, h])
          rw [← hck]
          have et : (ck : Int).tmod 2 = ((ck % 2 : Nat) : Int) := (Int.ofNat_tmod ck 2).symm
          obtain ⟨md, hmd⟩ : ∃ md, md = ck % 2 := ⟨_, rfl⟩
          rw [← hmd] at et HNX
          have hmd2 : md < 2 := by omega
          have wz : IntKind.i64.wrap (md : Int) = (md : Int) := wrapi64 _ (by omega) (by omega)
          have WZ := Lib.hid (show wrap64 (md : Int) = (md : Int) from by rw [wrap_eq]; exact wz)
          clear hL hck hmd hO hE hE2
          by_cases h1 : md = 1
          · subst h1
            have HN1 := Lib.hid (HNX.out.trans (if_pos rfl))
            obtain ⟨W3, hW3⟩ : ∃ W3, W3 = wr.alloc (.cells #[.int .i64 (c : Int)] 3) := ⟨_, rfl⟩
            have hE3 : Ext wr W3 := by rw [hW3]; exact (Ext.refl _).alloc _
            have hz3 : W3.heap[wr.heap.size]? = some (.cells #[.int .i64 (c : Int)] 3 (0, 0)) := by rw [hW3]; exact heap_alloc_new wr _
            obtain ⟨v4, X4, hrun, ho4, hg4⟩ := appendI_run (HO2.out.ext hE3) (by have := HE2.out.size; have := hE3.size; omega) hLl (c : Int) wr.heap.size (cell_of_blk hz3 rfl) 22
            have hob := own_from (HO2.out.ext hE3)
            have HO4 := Lib.hid (show OwnI 3 w5.heap.size X4 v4 (natI ((List.range (c + 1)).filter fun c => decide (C c k % 2 = 1))) from by rw [HN1.out]; exact ho4)
            have HE4 := Lib.hid (show Ext w5 X4 from grown_any (HE2.out.trans hE3) hg4 (fun g e => hob g e))
            rw [hW3] at hrun
            have wz2 := WZ.out
            clear hE3 hz3 ho4 hg4 hob hW3 HNX
            go_wp2_with (first | (refine wpList_append_run rfl _ _ 22 rfl rfl rfl hrun ?_) | fail)
            go_roundw
            case rel => exact ⟨c + 1, by omega, by go_num, HO4, HE4⟩
            case measure => simp [intOf]; omega
          · have h0 : md = 0 := by omega
            subst h0
            have HO4 := Lib.hid (show OwnI 3 w5.heap.size wr u5 (natI ((List.range (c + 1)).filter fun c => decide (C c k % 2 = 1))) from by rw [HNX.out.trans (if_neg h1)]; exact HO2.out)
            have wz2 := WZ.out
            clear HNX h1
            go_wp2
            go_roundw
            case rel => exact ⟨c + 1, by omega, by go_num, HO4, HE2⟩
            case measure => simp [intOf]; omega
    · obtain rfl : c = 64 := by omega
      go_wp2
      refine bodyPost_ret (by first | (simp [results, Try.results24, go_sem]; done) | (simp [results, Try.results24, go_sem]; rfl)) rfl ?_
      exact ⟨u5, rfl, ownI_weak hO.out HE5.out.size, HE5.out.trans hE.out⟩
theorem renclosed_ok (X Y : Int) (s : ByteArray) (w : World) (h : chkC X Y s = 0) :
    Calls Try.prog 24 #[.agg #[.int .i64 X, .int .i64 Y, .string s]] w fun e w' => ∃ u, e = .returned (.tuple #[u, .int .i64 0]) ∧ OwnI 3 w.heap.size w' u (natI (encl (sts (X, Y) (dirs s)))) ∧ Ext w w' := by
  obtain ⟨h1, h2, h3, h4, h5⟩ := chk0 h
  have hlen := dirs_len s
  have hlp := clsd_lp h2 (by omega) h5
  have hC := crr_of (X, Y) (dirs s) h2 (by omega) h4
  rw [← h3] at hC
  have hr := renclosed_run X Y s w (by omega) h _ _ hC
  have he : ((List.range 64).filter fun c => decide (CrK (X, Y) (dirs s) c (dirs s).length % 2 = 1)) = encl (sts (X, Y) (dirs s)) := by
    unfold encl
    refine List.filter_congr fun c hc => ?_
    rw [← hlp.odd (on_sts h4) c]
    have hp := crs_pos c (sts (X, Y) (dirs s))
    unfold CrK
    rw [List.take_of_length_le (by rw [sts_len]; omega)]
    refine decide_eq_decide.2 ?_
    omega
  rw [he] at hr
  exact hr
end Go.Proofs.Ytppjnpempgpkaaa
