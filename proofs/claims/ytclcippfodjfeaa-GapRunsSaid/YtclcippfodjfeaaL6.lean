/- GapRuns, by its contract. -/
import Derived.Test.YtclcippfodjfeaaL2
import Derived.Test.YtclcippfodjfeaaR3
import Derived.Test.YtclcippfodjfeaaB4
namespace Go.Proofs.Ytclcippfodjfeaa
open Go.RowKit
set_option linter.unusedVariables false
set_option linter.unusedSimpArgs false
attribute [local go_sem] Oper.semAt_some
set_option maxRecDepth 100000 in
set_option maxHeartbeats 4000000 in
theorem runs6 (a : Option Addr) (cap : Nat) (row : List Int) (a2 : Option Addr) (cap2 : Nat) (t : List Int) (w : World) (hlen : row.length ≤ cap ∧ cap ≤ 9223372036854775807) (hr : row.length ≤ 5000 → Reads w (.slice a row.length cap) row) (hlen2 : t.length ≤ cap2 ∧ cap2 ≤ 9223372036854775807) (hr2 : t.length ≤ 5000 → Reads w (.slice a2 t.length cap2) t) :
    Calls Try.prog 6 #[.slice a row.length cap, .slice a2 t.length cap2] w fun e w' => e = .returned (.bool true) ∧ Ext w w' := by
  obtain ⟨n, hn⟩ : ∃ n, n = row.length := ⟨_, rfl⟩
  rw [← hn] at hlen hr ⊢
  obtain ⟨n2, hn2⟩ : ∃ n2, n2 = t.length := ⟨_, rfl⟩
  rw [← hn2] at hlen2 hr2 ⊢
  by_cases hg : 40 < n
  · have hG : decide (40 < n) = true := by simpa using hg
    clear hr hr2 hg hn hn2
    go_enter Try.func6, Try.ntmps6
    have HE := Lib.hid (Ext.refl w)
    go_wp2_with fail
    refine (great17 a n cap _).mono ?_
    rintro e w1 ⟨rfl, rfl⟩
    rw [hG]
    go_wp2_with fail
    refine (works18 _).mono ?_
    rintro e w99 ⟨rfl, hb⟩
    have HE := Lib.hid (HE.out.trans hb)
    clear hb
    go_wp2
    go_ret
    exact ⟨rfl, HE.out⟩
  have hG : decide (40 < n) = false := by simpa using hg
  by_cases hg2 : 40 < n2
  · have hz : decide ((n2 : Int) > 40) = true := by simp; omega
    have hz2 : decide ((40 : Int) < n2) = true := by simp; omega
    have hz3 : decide (40 < n2) = true := by simp; omega
    clear hr hr2 hg hn hn2
    go_enter Try.func6, Try.ntmps6
    have HE := Lib.hid (Ext.refl w)
    go_wp2_with fail
    refine (great17 a n cap _).mono ?_
    rintro e w1 ⟨rfl, rfl⟩
    rw [hG]
    go_wp2_with fail
    refine (works18 _).mono ?_
    rintro e w99 ⟨rfl, hb⟩
    have HE := Lib.hid (HE.out.trans hb)
    clear hb
    go_wp2
    go_ret
    exact ⟨rfl, HE.out⟩
  have hz : decide ((n2 : Int) > 40) = false := by simp; omega
  have hz2 : decide ((40 : Int) < n2) = false := by simp; omega
  have hz3 : decide (40 < n2) = false := by simp; omega
  have hR := hr (by omega); have hT := hr2 (by omega)
  have C33 := Lib.hid (fun (W : World) (h : Ext w W) => listRef_of (run33 _ row W (hR.ext h)))
  have C34 := Lib.hid (fun (W : World) (h : Ext w W) => refRun34n _ row W (hR.ext h))
  have C35 := Lib.hid (fun (W : World) (h : Ext w W) => checkRun35 _ _ row t W (hR.ext h) (hT.ext h))
  have C36 := Lib.hid (fun (W : World) (h : Ext w W) => refRun36 _ _ row t W (hR.ext h) (hT.ext h))
  generalize runE row t = x at C35 C36
  generalize chkR row = d at C33 C34
  generalize natI (longM row) = xs at C33 C34
  clear hr hr2 hg hn hn2 hg2 hR hT
  go_enter Try.func6, Try.ntmps6
  have HE := Lib.hid (Ext.refl w)
  go_wp2_with fail
  refine (great17 a n cap _).mono ?_
  rintro e w1 ⟨rfl, rfl⟩
  rw [hG]
  go_wp2_with fail
  refine (C33.out _ HE.out).mono ?_
  rintro e w2 ⟨pa, pn, pc, rfl, hx, hb⟩
  have HE := Lib.hid (HE.out.trans hb)
  have HP := Lib.hid hx
  clear hb hx
  go_wp2_with fail
  refine (C34.out _ HE.out).mono ?_
  rintro e w3 ⟨qa, qn, qc, rfl, hx, hb⟩
  have HE := Lib.hid (HE.out.trans hb)
  have HP := Lib.hid (HP.out.ext hb)
  have HQ := Lib.hid hx
  clear hb hx
  go_wp2_with fail
  refine (C35.out _ HE.out).mono ?_
  rintro e w4 ⟨rfl, hb⟩
  have HE := Lib.hid (HE.out.trans hb)
  have HP := Lib.hid (HP.out.ext hb)
  have HQ := Lib.hid (HQ.out.ext hb)
  clear hb
  go_wp2_with fail
  refine (C36.out _ HE.out).mono ?_
  rintro e w5 ⟨rfl, hb⟩
  have HE := Lib.hid (HE.out.trans hb)
  have HP := Lib.hid (HP.out.ext hb)
  have HQ := Lib.hid (HQ.out.ext hb)
  clear hb
  go_wp2_with fail
  refine (wI _ _ _ _ HP.out HQ.out).mono ?_
  rintro e w6 ⟨rfl, hb⟩
  have HE := Lib.hid (HE.out.trans hb)
  clear hb
  go_wp2_with fail
  refine (works18 _).mono ?_
  rintro e w99 ⟨rfl, hb⟩
  have HE := Lib.hid (HE.out.trans hb)
  clear hb
  go_wp2
  go_ret
  exact ⟨rfl, HE.out⟩
end Go.Proofs.Ytclcippfodjfeaa
