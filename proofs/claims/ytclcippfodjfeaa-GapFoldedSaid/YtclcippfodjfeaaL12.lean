/- GapMore, by its contract. -/
import Derived.Test.YtclcippfodjfeaaL2
namespace Go.Proofs.Ytclcippfodjfeaa
open Go.RowKit
set_option linter.unusedVariables false
set_option linter.unusedSimpArgs false
attribute [local go_sem] Oper.semAt_some
theorem tab_le (row : List Int) : (tab row).length ≤ row.length := by
  have h := tab_len row
  have h3 : ∀ t : List (List Int), (∀ r ∈ t, r ≠ []) → t.length ≤ sumk t.length t := by
    intro t
    induction t with
    | nil => intro _; simp
    | cons a t ih =>
      intro h
      have h4 := ih (fun r hr => h r (by simp [hr]))
      have h5 : 1 ≤ a.length := List.length_pos_iff.2 (h a (by simp))
      show t.length + 1 ≤ a.length + sumk t.length t
      omega
  have := h3 (tab row) (tab_ne row)
  omega
theorem chk_take {row : List Int} (hc : chkR row = 0) (k : Nat) : chkR (row.take k) = 0 := by
  obtain ⟨h1, h2⟩ := chkR_ok.1 hc
  exact chkR_ok.2 ⟨by rw [List.length_take]; omega, fun x hx => h2 x (List.mem_of_mem_take hx)⟩
theorem chk_drop {row : List Int} (hc : chkR row = 0) (k : Nat) : chkR (row.drop k) = 0 := by
  obtain ⟨h1, h2⟩ := chkR_ok.1 hc
  exact chkR_ok.2 ⟨by rw [List.length_drop]; omega, fun x hx => h2 x (List.mem_of_mem_drop hx)⟩
theorem most_of {row : List Int} (hc : chkR row = 0) {m : Nat} (hm : m ≤ 30) (v : Value) (W : World) (h : Reads W v row) : Calls Try.prog 23 #[v, .int .i64 (m : Int)] W fun e w' => e = .returned (.tuple #[.int .i64 ((sumk m (tab row) : Nat) : Int), .int .i64 0]) ∧ Ext W w' := by
  have := most23 v row m W h
  rwa [ask_nat hc hm, if_pos rfl, mostV_sumk] at this
theorem few_of {row : List Int} (hc : chkR row = 0) (v : Value) (W : World) (h : Reads W v row) : Calls Try.prog 25 #[v] W fun e w' => e = .returned (.tuple #[.int .i64 ((tab row).length : Int), .int .i64 0]) ∧ Ext W w' := by
  have := fewest25 v row W h
  rwa [hc, if_pos rfl] at this
theorem more_facts {row : List Int} {n1 : Nat} (hn : row.length = n1 + 1) (m : Nat) : sumk m (tab (row.take n1)) ≤ sumk m (tab row) ∧ sumk m (tab row) ≤ sumk m (tab (row.take n1)) + 1 ∧ sumk m (tab row) ≤ sumk (m + 1) (tab row) ∧ (tab (row.take n1)).length ≤ (tab row).length ∧ (tab row).length ≤ (tab (row.take n1)).length + 1 ∧ sumk m (tab row) ≤ n1 + 1 := by
  have e : row = row.take n1 ++ [row[n1]] := by
    conv => lhs; rw [← List.take_append_drop n1 row]
    congr 1
    rw [List.drop_eq_getElem_cons (by omega), List.drop_eq_nil_of_le (by omega)]
  have h1 := more_one (row.take n1) row[n1] m
  rw [← e] at h1
  have h2 := few_joined (row.take n1) [row[n1]]
  rw [← e, few_tab, few_tab, few_tab] at h2
  have h3 := tab_le [row[n1]]
  simp only [List.length_singleton] at h3
  have h4 := most_le (row := row) (m := m)
  rw [mostV_sumk, hn] at h4
  exact ⟨h1.1, h1.2, sumk_mono m _, h2.2.1, by omega, by omega⟩
set_option maxRecDepth 100000 in
set_option maxHeartbeats 4000000 in
theorem more12 (a : Option Addr) (cap : Nat) (row : List Int) (y : Nat) (w : World) (hlen : row.length ≤ cap ∧ cap ≤ 9223372036854775807) (hr : row.length ≤ 5000 → Reads w (.slice a row.length cap) row) (hy : y ≤ 255) :
    Calls Try.prog 12 #[.slice a row.length cap, .int .u8 (y : Int)] w fun e w' => e = .returned (.bool true) ∧ Ext w w' := by
  obtain ⟨n, hn⟩ : ∃ n, n = row.length := ⟨_, rfl⟩
  rw [← hn] at hlen hr ⊢
  rcases fine43 a n cap row hn w hr with F | ⟨hc, hR, F⟩
  · have HF := Lib.hid F
    clear F hr hn
    go_enter Try.func12, Try.ntmps12
    have HE := Lib.hid (Ext.refl w)
    go_wp2_with fail
    refine (HF.out _ HE.out).mono ?_
    rintro e w1 ⟨rfl, rfl⟩
    go_wp2_with fail
    refine (works18 _).mono ?_
    rintro e w99 ⟨rfl, hb⟩
    have HE := Lib.hid (HE.out.trans hb)
    clear hb
    go_wp2
    go_ret
    exact ⟨rfl, HE.out⟩
  have HF := Lib.hid F
  clear F
  obtain ⟨hn30, -⟩ := chkR_ok.1 hc
  rw [← hn] at hn30
  by_cases h0 : n = 0
  · subst h0
    clear hr hn hR
    go_enter Try.func12, Try.ntmps12
    have HE := Lib.hid (Ext.refl w)
    go_wp2_with fail
    refine (HF.out _ HE.out).mono ?_
    rintro e w1 ⟨rfl, rfl⟩
    go_wp2_with fail
    refine (works18 _).mono ?_
    rintro e w99 ⟨rfl, hb⟩
    have HE := Lib.hid (HE.out.trans hb)
    clear hb
    go_wp2
    go_ret
    exact ⟨rfl, HE.out⟩
  obtain ⟨n1, rfl⟩ : ∃ n1, n = n1 + 1 := ⟨n - 1, by omega⟩
  obtain ⟨b, off, x0, rfl, -, -⟩ := hR.at (show 0 < row.length by omega)
  obtain ⟨m, hm, hm2⟩ : ∃ m, m = y % 30 ∧ m ≤ 29 := ⟨_, rfl, by omega⟩
  have hRx := hR.take (k := n1) (by omega) cap (by omega)
  obtain ⟨f1, f2, f3, f4, f5, f6⟩ := more_facts hn.symm m
  have C23x := Lib.hid (fun (W : World) (h : Ext w W) => most_of (chk_take hc n1) (m := m) (by omega) _ W (hRx.ext h))
  have C23 := Lib.hid (fun (W : World) (h : Ext w W) => most_of hc (m := m) (by omega) _ W (hR.ext h))
  have c23m := (fun (W : World) (h : Ext w W) => most_of hc (m := m + 1) (by omega) _ W (hR.ext h))
  rw [Int.natCast_add, Int.natCast_one] at c23m
  have C23m := Lib.hid c23m
  have C25x := Lib.hid (fun (W : World) (h : Ext w W) => few_of (chk_take hc n1) _ W (hRx.ext h))
  have C25 := Lib.hid (fun (W : World) (h : Ext w W) => few_of hc _ W (hR.ext h))
  have ht := tab_le row
  rw [← hn] at ht
  generalize sumk m (tab (row.take n1)) = na at *
  generalize sumk m (tab row) = nb at *
  generalize sumk (m + 1) (tab row) = nc at *
  generalize (tab (row.take n1)).length = f at *
  generalize (tab row).length = g at *
  have wy : IntKind.i64.wrap (y : Int) = (y : Int) := wrapi64 _ (by omega) (by omega)
  have wm : IntKind.i64.wrap (m : Int) = (m : Int) := wrapi64 _ (by omega) (by omega)
  have et : ((y : Nat) : Int).tmod 30 = (m : Int) := by rw [show (30 : Int) = ((30 : Nat) : Int) from rfl, ← Int.ofNat_tmod, hm]
  have em : (y : Int) % 30 = (m : Int) := by omega
  have wm1 : IntKind.i64.wrap ((m : Int) + 1) = (m : Int) + 1 := wrapi64 _ (by omega) (by omega)
  have wna : IntKind.i64.wrap ((na : Int) + 1) = (na : Int) + 1 := wrapi64 _ (by omega) (by omega)
  have wf : IntKind.i64.wrap ((f : Int) + 1) = (f : Int) + 1 := wrapi64 _ (by omega) (by omega)
  have wn : IntKind.i64.wrap (n1 : Int) = (n1 : Int) := wrapi64 _ (by omega) (by omega)
  have k1 : decide ((nb : Int) ≥ na) = true := by simp; omega
  have k1b : decide (na ≤ nb) = true := by simp; omega
  have k2 : decide ((nb : Int) ≤ (na : Int) + 1) = true := by simp; omega
  have k2b : decide (nb ≤ na + 1) = true := by simp; omega
  have k3 : decide ((nc : Int) ≥ nb) = true := by simp; omega
  have k3b : decide (nb ≤ nc) = true := by simp; omega
  have k4 : decide ((g : Int) ≥ f) = true := by simp; omega
  have k4b : decide (f ≤ g) = true := by simp; omega
  have k5 : decide ((g : Int) ≤ (f : Int) + 1) = true := by simp; omega
  have k5b : decide (g ≤ f + 1) = true := by simp; omega
  clear hr hn hR hRx hm c23m hc
  go_enter Try.func12, Try.ntmps12
  have HE := Lib.hid (Ext.refl w)
  go_wp2_with fail
  refine (HF.out _ HE.out).mono ?_
  rintro e w1 ⟨rfl, rfl⟩
  go_wp2_with fail
  refine (C23x.out _ HE.out).mono ?_
  rintro e w2 ⟨rfl, hb⟩
  have HE := Lib.hid (HE.out.trans hb)
  clear hb
  go_wp2_with fail
  refine (C23.out _ HE.out).mono ?_
  rintro e w3 ⟨rfl, hb⟩
  have HE := Lib.hid (HE.out.trans hb)
  clear hb
  go_wp2_with fail
  refine (C23m.out _ HE.out).mono ?_
  rintro e w4 ⟨rfl, hb⟩
  have HE := Lib.hid (HE.out.trans hb)
  clear hb
  go_wp2_with fail
  refine (C25x.out _ HE.out).mono ?_
  rintro e w5 ⟨rfl, hb⟩
  have HE := Lib.hid (HE.out.trans hb)
  clear hb
  go_wp2_with fail
  refine (C25.out _ HE.out).mono ?_
  rintro e w6 ⟨rfl, hb⟩
  have HE := Lib.hid (HE.out.trans hb)
  clear hb
  go_wp2_with fail
  refine (works18 _).mono ?_
  rintro e w99 ⟨rfl, hb⟩
  have HE := Lib.hid (HE.out.trans hb)
  clear hb
  go_wp2
  go_ret
  exact ⟨rfl, HE.out⟩
end Go.Proofs.Ytclcippfodjfeaa
