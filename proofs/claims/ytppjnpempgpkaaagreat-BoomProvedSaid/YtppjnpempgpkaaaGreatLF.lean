/- far, and all that the program and the reference say of ways. -/
import Derived.Test.YtppjnpempgpkaaaGreatS4
import Derived.Test.YtppjnpempgpkaaaGreatSO
import Derived.Test.YtppjnpempgpkaaaGreatY1
import Derived.Test.YtppjnpempgpkaaaGreatSW
import Derived.Test.YtppjnpempgpkaaaGreatH7
import Derived.Test.YtppjnpempgpkaaaGreatH6
import Derived.Test.YtppjnpempgpkaaaGreatN3
import Derived.Test.YtppjnpempgpkaaaGreatK1
namespace Go.Proofs.YtppjnpempgpkaaaGreat
open Go.RowKit Go.Shelf
set_option linter.unusedVariables false
set_option linter.unusedSimpArgs false
attribute [local go_sem] Oper.semAt_some

theorem LensW.at {w : World} {a : Option Addr} {n cap : Nat} {ls : List WI} (h : LensW w (.slice a n cap) ls) {i : Nat} (hi : i < ls.length) :
    ∃ b off x a' c', a = some ⟨b, off, none⟩ ∧ ls[i]? = some x ∧ w.cell? ⟨b, off + i * 2, none⟩ = some (.slice a' x.1.length c') := by
  obtain ⟨a', cap', e, h2, h3⟩ := h
  cases e
  rcases h3 with rfl | ⟨b, off, e, hc⟩
  · simp at hi
  · obtain ⟨x, hx⟩ := get_some hi
    obtain ⟨u, c', c0⟩ := hc i x hx
    exact ⟨b, off, x, u, c', e, hx, c0⟩
theorem LensW.ext {w w' : World} {v : Value} {ls : List WI} (h : LensW w v ls) (hE : Ext w w') : LensW w' v ls := by
  obtain ⟨a, cap, e, h2, h3⟩ := h
  refine ⟨a, cap, e, h2, h3.imp id ?_⟩
  rintro ⟨b, off, e, hc⟩
  refine ⟨b, off, e, fun i x hx => ?_⟩
  obtain ⟨u, c', c0⟩ := hc i x hx
  exact ⟨u, c', cell_ext hE c0⟩
set_option maxRecDepth 100000 in
set_option maxHeartbeats 4000000 in
theorem far_any (v : Value) (ls : List WI) (w : World) (hr : LensW w v ls) : Calls Tryz.prog 21 #[v] w fun e w' => e = .returned (.bool (farB ls)) ∧ Ext w w' := by
  obtain ⟨a, cap, rfl, hl, -⟩ := id hr
  have HC := Lib.hid hr
  clear hr
  obtain ⟨n, hn⟩ : ∃ n, n = ls.length := ⟨_, rfl⟩
  have HN := Lib.hid hn
  obtain ⟨r, hrr⟩ : ∃ r, r = farB ls := ⟨_, rfl⟩
  rw [← hrr]
  have HR := Lib.hid (show r = ((decide (40 < n) && decide (n ≤ 256) || decide (260 < n)) || ls.any fun x => decide (70 < x.1.length)) from by rw [hrr, hn]; rfl)
  rw [← hn] at hl HC ⊢
  clear hrr hn
  have hn63 : n ≤ 9223372036854775807 := by omega
  obtain ⟨q1, hq1⟩ : ∃ q, decide (40 < n) = q := ⟨_, rfl⟩
  obtain ⟨q2, hq2⟩ : ∃ q, decide (n ≤ 256) = q := ⟨_, rfl⟩
  obtain ⟨q3, hq3⟩ : ∃ q, decide (260 < n) = q := ⟨_, rfl⟩
  rw [hq1, hq2, hq3] at HR
  have hq4 : decide ((40 : Int) < (n : Int)) = q1 := by rw [← hq1]; exact decide_eq_decide.2 (by omega)
  have hq5 : decide ((n : Int) ≤ 256) = q2 := by rw [← hq2]; exact decide_eq_decide.2 (by omega)
  have hq6 : decide ((260 : Int) < (n : Int)) = q3 := by rw [← hq3]; exact decide_eq_decide.2 (by omega)
  obtain ⟨Q, hQ⟩ : ∃ Q, Q = (q1 && q2 || q3) := ⟨_, rfl⟩
  rw [← hQ] at HR
  by_cases hQt : Q = true
  · have HV := Lib.hid (show r = true from by rw [HR.out, hQt]; rfl)
    rw [hQt] at hQ
    clear HR hQt
    go_enter Tryz.func21, Tryz.ntmps21
    cases q1 <;> cases q2 <;> cases q3 <;> first
      | (exfalso; revert hQ; decide)
      | (exfalso; simp only [decide_eq_true_iff, decide_eq_false_iff_not] at hq1 hq2 hq3; omega)
      | (clear hQ hq1 hq2 hq3
         go_wp2
         go_ret
         exact ⟨ret_bool HV.out.symm, Ext.refl _⟩)
  · rw [Bool.not_eq_true] at hQt
    have HV := Lib.hid (show r = ls.any fun x => decide (70 < x.1.length) from by rw [HR.out, hQt]; rfl)
    rw [hQt] at hQ
    clear HR hQt
    go_enter Tryz.func21, Tryz.ntmps21
    cases q1 <;> cases q2 <;> cases q3 <;> first
      | (exfalso; revert hQ; decide)
      | (exfalso; simp only [decide_eq_true_iff, decide_eq_false_iff_not] at hq1 hq2 hq3; omega)
      | (clear hQ hq1 hq2 hq3
         go_wp2
         clear hq4 hq5 hq6
         go_loopw [3] (fun i wr => ∃ k : Nat, k ≤ n ∧ i = .int .i64 (k : Int) ∧ Hid ((ls.take k).any (fun x => decide (70 < x.1.length)) = false) ∧ Hid (wr = w)) (fun i wr => n - (intOf i).toNat)
         case atStart => exact ⟨0, Nat.zero_le _, rfl, Lib.hid rfl, (by first | exact Lib.hid rfl | exact Lib.hid trivial)⟩
         case round =>
           obtain ⟨k, hk, rfl, hI, hW⟩ := hrel
           obtain rfl := hW.out
           by_cases hlt : k < n
           · obtain ⟨b, off, x, sa, sc, rfl, hx, hc0⟩ := HC.out.at (show k < ls.length by have := HN.out; omega)
             obtain ⟨lx, hlx⟩ : ∃ lx, lx = x.1.length := ⟨_, rfl⟩
             have HAT := Lib.hid (show (ls.take (k + 1)).any (fun x => decide (70 < x.1.length)) = decide (70 < lx) from by rw [take_snoc hx, List.any_append, hI.out, hlx]; simp)
             rw [← hlx] at hc0
             have hka : (0 : Int) ≤ (k : Int) := by omega
             have hkb : (k : Int) < (n : Int) := by omega
             clear hx hlx
             by_cases h70 : 70 < lx
             · have HT := Lib.hid (show r = true from by
                 rw [HV.out, List.any_eq_true]
                 have h1 := HAT.out
                 rw [decide_eq_true h70, List.any_eq_true] at h1
                 obtain ⟨y, hy, h2⟩ := h1
                 exact ⟨y, List.mem_of_mem_take hy, h2⟩)
               go_wp2
               go_ret
               exact ⟨ret_bool HT.out.symm, Ext.refl _⟩
             · have HA2 := Lib.hid (HAT.out.trans (decide_eq_false h70))
               go_wp2
               go_roundw
               case rel => exact ⟨k + 1, by omega, by go_num, HA2, (by first | exact Lib.hid rfl | exact Lib.hid trivial)⟩
               case measure => simp [intOf]; omega
           · obtain rfl : k = n := by omega
             have HT := Lib.hid (show r = false from by
               rw [HV.out]
               have h1 := hI.out
               rw [HN.out, List.take_of_length_le (Nat.le_refl _)] at h1
               exact h1)
             go_wp2
             go_ret
             exact ⟨ret_bool HT.out.symm, Ext.refl _⟩)
theorem far_small {ls : List WI} (h : farB ls = false) : ls.length ≤ 260 ∧ ∀ x ∈ ls, x.1.length ≤ 70 := by
  unfold farB at h
  rw [Bool.or_eq_false_iff, Bool.or_eq_false_iff, decide_eq_false_iff_not, List.any_eq_false] at h
  refine ⟨by omega, fun x hx => ?_⟩
  have := h.2 x hx
  rw [decide_eq_true_iff] at this
  omega
set_option maxRecDepth 100000 in
set_option maxHeartbeats 1000000 in
theorem ways_end (W H nw cw nk ck : Nat) (aw ak : Option Addr) (wn kn : List Nat) (hv : VP W H wn kn) (L : List WI) (u : Value) (w : World) (f : Nat) (hR : ReadsW w u L) (f1 : chkW (gp hv) W H (natI wn) (natI kn) L = 0) (f2 : L.length = f) (f3 : L.length ≤ 256) (hw : Reads w (.slice aw nw cw) (natI wn)) (hk : Reads w (.slice ak nk ck) (natI kn)) :
    ∃ (u' : Option Addr) (n c : Nat), u = .slice u' n c ∧ n ≤ 256 ∧ ∀ Y : World, Ext w Y → Calls Tryz.prog 25 #[.agg #[.int .i64 (W : Int), .int .i64 (H : Int), .slice aw nw cw, .slice ak nk ck], .slice u' n c] Y fun e2 w2 => e2 = .returned (.tuple #[.int .i64 (f : Int), .int .i64 0]) ∧ Ext Y w2 := by
  obtain ⟨_, a, c, rfl⟩ := hR.shape
  refine ⟨a, _, c, rfl, f3, fun Y hY => ?_⟩
  have h5 := rcheckWays_ok W H nw cw nk ck aw ak wn kn hv _ Y (hw.ext hY) (hk.ext hY) L (hR.ext hY) (Nat.le_trans f3 (by decide))
  subst f2
  rw [if_pos f1, f1] at h5
  exact h5
set_option maxRecDepth 100000 in
/-- Both checks of ways, the ways that are returned, and the fewest sticks. -/
theorem ways_any (W H : Int) (nw cw nk ck : Nat) (aw ak : Option Addr) (wl kl : List Int) (v : Value) (ls : List WI) (w : World) (hw : Reads w (.slice aw nw cw) wl) (hk : Reads w (.slice ak nk ck) kl) (hr : ReadsW w v ls) (h4 : ls.length ≤ 4000) :
    (∃ a r : Int, (∀ X : World, Ext w X → Calls Tryz.prog 24 #[.agg #[.int .i64 W, .int .i64 H, .slice aw nw cw, .slice ak nk ck], v] X fun e w' => e = .returned (.tuple #[.int .i64 a, .int .i64 r]) ∧ Ext X w') ∧ (∀ X : World, Ext w X → Calls Tryz.prog 25 #[.agg #[.int .i64 W, .int .i64 H, .slice aw nw cw, .slice ak nk ck], v] X fun e w' => e = .returned (.tuple #[.int .i64 a, .int .i64 r]) ∧ Ext X w')) ∧
    (∃ f : Int, (∀ X : World, Ext w X → Calls Tryz.prog 11 #[.agg #[.int .i64 W, .int .i64 H, .slice aw nw cw, .slice ak nk ck]] X fun e w' => e = .returned (.tuple #[.int .i64 f, .int .i64 (chkP W H wl kl)]) ∧ Ext X w') ∧
      ∀ X : World, Ext w X → Calls Tryz.prog 23 #[.agg #[.int .i64 W, .int .i64 H, .slice aw nw cw, .slice ak nk ck]] X fun e w' => ∃ (u : Option Addr) (n c : Nat), e = .returned (.tuple #[.slice u n c, .int .i64 (chkP W H wl kl)]) ∧ n ≤ 256 ∧ (chkP W H wl kl ≠ 0 → n = 0) ∧ Ext X w' ∧
        (chkP W H wl kl = 0 → ∀ Y : World, Ext w' Y → Calls Tryz.prog 25 #[.agg #[.int .i64 W, .int .i64 H, .slice aw nw cw, .slice ak nk ck], .slice u n c] Y fun e2 w2 => e2 = .returned (.tuple #[.int .i64 f, .int .i64 0]) ∧ Ext Y w2)) := by
  by_cases h0 : chkP W H wl kl = 0
  · obtain ⟨W', H', wn, kn, ⟨rfl, rfl⟩, ⟨rfl, rfl⟩, hv⟩ := chkP_ok.1 h0
    rw [h0]
    refine ⟨⟨_, _, fun X h => checkWays_ok W' H' nw cw nk ck aw ak wn kn hv v X (hw.ext h) (hk.ext h) ls (hr.ext h) h4, fun X h => rcheckWays_ok W' H' nw cw nk ck aw ak wn kn hv v X (hw.ext h) (hk.ext h) ls (hr.ext h) h4⟩, _, fun X h => fewest_ok W' H' nw cw nk ck aw ak wn kn hv X (hw.ext h) (hk.ext h), fun X h => (ways_ok W' H' nw cw nk ck aw ak wn kn hv X (hw.ext h) (hk.ext h)).mono fun e w' ⟨u, h1, h2, h3⟩ => ?_⟩
    obtain ⟨f1, f2, f3⟩ := ways_fine hv
    obtain ⟨u', n, c, rfl, hn, hc⟩ := ways_end W' H' nw cw nk ck aw ak wn kn hv _ u w' _ h2 f1 f2 f3 (hw.ext (h.trans h3)) (hk.ext (h.trans h3))
    exact ⟨u', n, c, h1, hn, fun h => absurd rfl h, h3, fun _ => hc⟩
  · exact ⟨⟨0, _, fun X h => checkWays_no W H nw cw nk ck aw ak wl kl X (hw.ext h) (hk.ext h) h0 v, fun X h => rcheckWays_no W H nw cw nk ck aw ak wl kl X (hw.ext h) (hk.ext h) h0 v⟩, 0, fun X h => fewest_no W H nw cw nk ck aw ak wl kl X (hw.ext h) (hk.ext h) h0, fun X h => (ways_no W H nw cw nk ck aw ak wl kl X (hw.ext h) (hk.ext h) h0).mono fun e w' ⟨h1, h2⟩ => ⟨none, 0, 0, h1, by omega, fun _ => rfl, h2, fun h => absurd h h0⟩⟩
end Go.Proofs.YtppjnpempgpkaaaGreat
