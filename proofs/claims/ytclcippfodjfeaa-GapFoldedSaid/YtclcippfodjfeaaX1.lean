/- cmp.Compare, cmp.Or, slices.Compare, longestFirst (98, 89, 88, 90, 71), by their contracts. -/
import Derived.Test.YtclcippfodjfeaaR6
namespace Go.Proofs.Ytclcippfodjfeaa
open Go.RowKit
set_option linter.unusedVariables false
set_option linter.unusedSimpArgs false
theorem isNaN98 (x : Int) (w : World) : Calls Try.prog 98 #[.int .i64 x] w fun e w' => e = .returned (.bool false) ∧ w = w' := by
  have h : (x != x) = false := by simp
  go_enter Try.func98, Try.ntmps98
  go_wp2
  go_ret
  exact ⟨rfl, rfl⟩
theorem compare89 (x y : Int) (w : World) : Calls Try.prog 89 #[.int .i64 x, .int .i64 y] w fun e w' => e = .returned (.int .i64 (cmpI x y)) ∧ w = w' := by
  unfold cmpI
  rcases Int.lt_trichotomy x y with h | h | h
  · rw [if_pos h]
    go_enter Try.func89, Try.ntmps89
    go_wp2_with fail
    refine (isNaN98 _ _).mono ?_
    rintro e w' ⟨rfl, rfl⟩
    go_wp2_with fail
    refine (isNaN98 _ _).mono ?_
    rintro e w' ⟨rfl, rfl⟩
    go_wp2
    go_ret
    exact ⟨rfl, rfl⟩
  · subst h
    rw [if_neg (by omega), if_neg (by omega)]
    go_enter Try.func89, Try.ntmps89
    go_wp2_with fail
    refine (isNaN98 _ _).mono ?_
    rintro e w' ⟨rfl, rfl⟩
    go_wp2_with fail
    refine (isNaN98 _ _).mono ?_
    rintro e w' ⟨rfl, rfl⟩
    go_wp2
    go_ret
    exact ⟨rfl, rfl⟩
  · rw [if_neg (by omega), if_pos h]
    have hn : ¬ x < y := by omega
    go_enter Try.func89, Try.ntmps89
    go_wp2_with fail
    refine (isNaN98 _ _).mono ?_
    rintro e w' ⟨rfl, rfl⟩
    go_wp2_with fail
    refine (isNaN98 _ _).mono ?_
    rintro e w' ⟨rfl, rfl⟩
    go_wp2
    go_ret
    exact ⟨rfl, rfl⟩
/-- The first of two numbers that is not 0. -/
def orI (x y : Int) : Int := if x ≠ 0 then x else y
set_option maxRecDepth 100000 in
set_option maxHeartbeats 1000000 in
theorem or88 (v : Value) (x y : Int) (w : World) (hr : Reads w v [x, y]) : Calls Try.prog 88 #[v] w fun e w' => e = .returned (.int .i64 (orI x y)) ∧ Ext w w' := by
  obtain ⟨hl, a, cap, rfl⟩ := hr.shape
  obtain ⟨b, off, x', rfl, hx, hcx⟩ := hr.at (k := 0) (by simp)
  obtain ⟨b', off', y', hb, hy, hcy⟩ := hr.at (k := 1) (by simp)
  cases hb
  simp at hx hy
  subst hx; subst hy
  unfold orI
  have hcx2 : w.cell? ⟨b, off, none⟩ = some (.int .i64 x) := hcx
  clear hr hl hcx
  by_cases h : x = 0
  · subst h
    rw [if_neg (by simp)]
    by_cases h2 : y = 0
    · subst h2
      go_enter Try.func88, Try.ntmps88
      go_wp2
      go_loop [8] (fun i => i = .int .i64 0 ∨ i = .int .i64 1 ∨ i = .int .i64 2) (fun i => 2 - (intOf i).toNat)
      case atStart => exact .inl rfl
      case round =>
        rcases hrel with rfl | rfl | rfl
        · go_wp2
          go_round
          case rel => exact .inr (.inl rfl)
          case measure => simp [intOf]
        · go_wp2
          go_round
          case rel => exact .inr (.inr rfl)
          case measure => simp [intOf]
        · go_wp2
          go_ret
          exact ⟨rfl, Ext.refl _⟩
    · have hn : (y != 0) = true := by simpa using h2
      go_enter Try.func88, Try.ntmps88
      go_wp2
      go_loop [8] (fun i => i = .int .i64 0 ∨ i = .int .i64 1) (fun i => 2 - (intOf i).toNat)
      case atStart => exact .inl rfl
      case round =>
        rcases hrel with rfl | rfl
        · go_wp2
          go_round
          case rel => exact .inr rfl
          case measure => simp [intOf]
        · go_wp2
          go_ret
          exact ⟨rfl, Ext.refl _⟩
  · rw [if_pos h]
    have hn : (x != 0) = true := by simpa using h
    go_enter Try.func88, Try.ntmps88
    go_wp2
    go_loop [8] (fun i => i = .int .i64 0) (fun i => 2 - (intOf i).toNat)
    case atStart => rfl
    case round =>
      subst hrel
      go_wp2
      go_ret
      exact ⟨rfl, Ext.refl _⟩
def natI (a : List Nat) : List Int := a.map fun (n : Nat) => (n : Int)
theorem natI_at {a : List Nat} {k x : Nat} (h : a[k]? = some x) : (natI a)[k]? = some (x : Int) := by simp [natI, h]
theorem natI_len (a : List Nat) : (natI a).length = a.length := by simp [natI]
set_option maxRecDepth 100000 in
set_option maxHeartbeats 1000000 in
theorem compare90 (u v : Value) (a b : List Nat) (w : World) (hu : Reads w u (natI a)) (hv : Reads w v (natI b)) : Calls Try.prog 90 #[u, v] w fun e w' => e = .returned (.int .i64 (lexC a b)) ∧ Ext w w' := by
  obtain ⟨hlu, au, capu, rfl⟩ := hu.shape
  obtain ⟨hlv, av, capv, rfl⟩ := hv.shape
  rw [natI_len] at hu hv hlu hlv
  rw [natI_len, natI_len]
  obtain ⟨n, hn⟩ : ∃ n, n = a.length := ⟨_, rfl⟩
  obtain ⟨m, hm⟩ : ∃ m, m = b.length := ⟨_, rfl⟩
  rw [← hn] at hu hlu ⊢
  rw [← hm] at hv hlv ⊢
  have HU := Lib.hid hu; have HV := Lib.hid hv; have HN := Lib.hid hn; have HM := Lib.hid hm
  obtain ⟨r, hr⟩ : ∃ r, r = lexC a b := ⟨_, rfl⟩
  rw [← hr]
  have HR := Lib.hid (show r = lexC (a.drop 0) (b.drop 0) from hr)
  clear hu hv hn hm hr
  go_enter Try.func90, Try.ntmps90
  go_wp2
  go_loopw [11] (fun i wr => ∃ k : Nat, k ≤ n ∧ k ≤ m ∧ i = .int .i64 (k : Int) ∧ Hid (r = lexC (a.drop k) (b.drop k)) ∧ Hid (Ext w wr)) (fun i wr => n - (intOf i).toNat)
  case atStart => exact ⟨0, by omega, by omega, rfl, HR.out, Ext.refl _⟩
  case round =>
    obtain ⟨k, hk, hkm, rfl, hI, hE⟩ := hrel
    by_cases hlt : k < n
    · obtain ⟨x, hx⟩ := get_some (show k < a.length by rw [← HN.out]; exact hlt)
      obtain ⟨b1, off1, x', rfl, hx', hcx⟩ := (HU.out.ext hE.out).at (k := k) (by rw [natI_len, ← HN.out]; exact hlt)
      have ex : x' = (x : Int) := Option.some.inj (hx'.symm.trans (natI_at hx))
      subst ex
      have hdx : a.drop k = x :: a.drop (k + 1) := by
        obtain ⟨h1, h2⟩ := List.getElem?_eq_some_iff.1 hx
        rw [List.drop_eq_getElem_cons h1, h2]
      have hka : (0 : Int) ≤ (k : Int) := by omega
      have hkb : (k : Int) < (n : Int) := by omega
      by_cases hm2 : k < m
      · obtain ⟨y, hy⟩ := get_some (show k < b.length by rw [← HM.out]; exact hm2)
        obtain ⟨b2, off2, y', rfl, hy', hcy⟩ := (HV.out.ext hE.out).at (k := k) (by rw [natI_len, ← HM.out]; exact hm2)
        have ey : y' = (y : Int) := Option.some.inj (hy'.symm.trans (natI_at hy))
        subst ey
        have hdy : b.drop k = y :: b.drop (k + 1) := by
          obtain ⟨h1, h2⟩ := List.getElem?_eq_some_iff.1 hy
          rw [List.drop_eq_getElem_cons h1, h2]
        have hkc : (k : Int) < (m : Int) := by omega
        have hdm : decide ((m : Int) ≤ (k : Int)) = false := decide_eq_false (by omega)
        have hI2 := hI.out
        rw [hdx, hdy] at hI2
        have HC := Lib.hid (fun W => compare89 (x : Int) (y : Int) W)
        by_cases hxy : x = y
        · subst hxy
          have HI2 := Lib.hid (show r = lexC (a.drop (k + 1)) (b.drop (k + 1)) from by rw [hI2]; conv => lhs; unfold lexC; rw [if_neg (by omega), if_neg (by omega)])
          have hc : cmpI (x : Int) (x : Int) = 0 := by unfold cmpI; rw [if_neg (by omega), if_neg (by omega)]
          rw [hc] at HC
          clear hx hx' hy hy' hdx hdy hI2 hc
          go_wp2_with fail
          refine (HC.out _).mono ?_
          rintro e w' ⟨rfl, rfl⟩
          go_wp2_with fail
          go_roundw
          case rel => exact ⟨k + 1, by omega, by omega, by go_num, HI2.out, hE.out⟩
          case measure => simp [intOf]; omega
        · have hrc : r = cmpI (x : Int) (y : Int) := by
            rw [hI2]; unfold lexC cmpI
            by_cases h1 : x < y
            · rw [if_pos h1, if_pos (show (x : Int) < (y : Int) by omega)]
            · rw [if_neg h1, if_pos (show y < x by omega), if_neg (show ¬ (x : Int) < (y : Int) by omega), if_pos (show (y : Int) < (x : Int) by omega)]
          have hr0 : (r != 0) = true := by
            rw [hrc]; unfold cmpI
            by_cases h1 : (x : Int) < (y : Int)
            · rw [if_pos h1]; rfl
            · rw [if_neg h1, if_pos (by omega)]; rfl
          rw [← hrc] at HC
          clear hx hx' hy hy' hdx hdy hI2 hrc
          go_wp2_with fail
          refine (HC.out _).mono ?_
          rintro e w' ⟨rfl, rfl⟩
          go_wp2_with fail
          go_ret
          exact ⟨rfl, hE.out⟩
      · have hdm : decide ((m : Int) ≤ (k : Int)) = true := decide_eq_true (by omega)
        have hmk : (m : Int) ≤ (k : Int) := by omega
        have hdy : b.drop k = [] := List.drop_eq_nil_of_le (by rw [← HM.out]; omega)
        have hr1 : r = 1 := by rw [hI.out, hdx, hdy]; rfl
        have HR1 := Lib.hid hr1
        clear hx hx' hdx hdy hr1
        go_wp2_with fail
        go_ret
        exact ⟨by rw [HR1.out]; rfl, hE.out⟩
    · obtain rfl : n = k := by omega
      have hda : a.drop n = [] := List.drop_eq_nil_of_le (by rw [← HN.out]; exact Nat.le_refl _)
      by_cases hm2 : n < m
      · have hr1 : r = -1 := by
          obtain ⟨y, hy⟩ := get_some (show n < b.length by rw [← HM.out]; exact hm2)
          obtain ⟨h1, h2⟩ := List.getElem?_eq_some_iff.1 hy
          rw [hI.out, hda, List.drop_eq_getElem_cons h1]; rfl
        have HR1 := Lib.hid hr1
        have hd : decide ((n : Int) < (m : Int)) = true := decide_eq_true (by omega)
        clear hda hr1
        go_wp2_with fail
        go_ret
        exact ⟨by rw [HR1.out]; rfl, hE.out⟩
      · have hr1 : r = 0 := by
          rw [hI.out, hda, List.drop_eq_nil_of_le (by rw [← HM.out]; omega)]; rfl
        have HR1 := Lib.hid hr1
        have hd : decide ((n : Int) < (m : Int)) = false := decide_eq_false (by omega)
        clear hda hr1
        go_wp2_with fail
        go_ret
        exact ⟨by rw [HR1.out]; rfl, hE.out⟩
theorem lfO_or (a b : List Nat) : lfO a b = orI (cmpI (b.length : Int) (a.length : Int)) (lexC a b) := by
  unfold lfO orI cmpI
  by_cases h1 : b.length < a.length
  · rw [if_pos h1, if_pos (show (b.length : Int) < (a.length : Int) by omega)]; simp
  · rw [if_neg h1, if_neg (show ¬ (b.length : Int) < (a.length : Int) by omega)]
    by_cases h2 : a.length < b.length
    · rw [if_pos h2, if_pos (show (a.length : Int) < (b.length : Int) by omega)]; simp
    · rw [if_neg h2, if_neg (show ¬ (a.length : Int) < (b.length : Int) by omega)]; simp
theorem longestFirst71 (u v : Value) (a b : List Nat) (w : World) (hu : Reads w u (natI a)) (hv : Reads w v (natI b)) : Calls Try.prog 71 #[u, v] w fun e w' => e = .returned (.int .i64 (lfO a b)) ∧ Ext w w' := by
  have H90 := Lib.hid (fun W (h : Ext w W) => compare90 u v a b W (hu.ext h) (hv.ext h))
  obtain ⟨hlu, au, capu, rfl⟩ := hu.shape
  obtain ⟨hlv, av, capv, rfl⟩ := hv.shape
  rw [natI_len] at H90
  rw [natI_len] at H90
  rw [natI_len, natI_len, lfO_or]
  have H89 := Lib.hid (fun W => compare89 (b.length : Int) (a.length : Int) W)
  obtain ⟨c, hc⟩ : ∃ c, c = cmpI (b.length : Int) (a.length : Int) := ⟨_, rfl⟩
  obtain ⟨d, hd⟩ : ∃ d, d = lexC a b := ⟨_, rfl⟩
  rw [← hc] at H89 ⊢
  rw [← hd] at H90 ⊢
  generalize a.length = n at *
  generalize b.length = m at *
  clear hu hv hc hd
  go_enter Try.func71, Try.ntmps71
  go_wp2_with fail
  refine (H89.out _).mono ?_
  rintro e w' ⟨rfl, rfl⟩
  go_wp2_with fail
  refine (H90.out _ (Ext.refl _)).mono ?_
  rintro e w1 ⟨rfl, hb⟩
  have HB := Lib.hid hb; clear hb
  go_wp2_with fail
  refine (or88 _ c d _ (Reads.new w1 [c, d] 3 _ rfl (by simp) _ rfl 2 2 rfl)).mono ?_
  rintro e w2 ⟨rfl, hb⟩
  have HB2 := Lib.hid ((HB.out.alloc _).trans hb); clear hb
  go_wp2
  go_ret
  exact ⟨rfl, HB2.out⟩
end Go.Proofs.Ytclcippfodjfeaa
