/- GapPlaces, by its contract. -/
import Derived.Test.YtclcippfodjfeaaL2
namespace Go.Proofs.Ytclcippfodjfeaa
open Go.RowKit
set_option linter.unusedVariables false
set_option linter.unusedSimpArgs false
attribute [local go_sem] Oper.semAt_some
set_option maxRecDepth 100000 in
set_option maxHeartbeats 4000000 in
theorem places5 (a : Option Addr) (cap : Nat) (row : List Int) (w : World) (hlen : row.length ≤ cap ∧ cap ≤ 9223372036854775807) (hr : row.length ≤ 5000 → Reads w (.slice a row.length cap) row) :
    Calls Try.prog 5 #[.slice a row.length cap] w fun e w' => e = .returned (.bool true) ∧ Ext w w' := by
  obtain ⟨n, hn⟩ : ∃ n, n = row.length := ⟨_, rfl⟩
  rw [← hn] at hlen hr ⊢
  by_cases hg : 40 < n
  · have hG : decide (40 < n) = true := by simpa using hg
    clear hr hg hn
    go_enter Try.func5, Try.ntmps5
    have HE := Lib.hid (Ext.refl w)
    go_wp2_with fail
    refine (great17 a n cap _).mono ?_
    rintro e w1 ⟨rfl, rfl⟩
    rw [hG]
    go_wp2_with fail
    refine (works18 _).mono ?_
    rintro e w99 ⟨rfl, hb⟩
    have HE := Lib.hid (HE.out.trans hb)
    clear hb
    go_wp2
    go_ret
    exact ⟨rfl, HE.out⟩
  have hG : decide (40 < n) = false := by simpa using hg
  have hR := hr (by omega)
  have C31 := Lib.hid (fun (W : World) (h : Ext w W) => place31r _ row W (hR.ext h))
  have C32 := Lib.hid (fun (W : World) (h : Ext w W) => listRef_of (refPlace32 _ row W (hR.ext h)))
  generalize chkR row = d at C31 C32
  generalize placeI row = xs at C31 C32
  clear hr hg hn hR
  go_enter Try.func5, Try.ntmps5
  have HE := Lib.hid (Ext.refl w)
  go_wp2_with fail
  refine (great17 a n cap _).mono ?_
  rintro e w1 ⟨rfl, rfl⟩
  rw [hG]
  go_wp2_with fail
  refine (C31.out _ HE.out).mono ?_
  rintro e w2 ⟨pa, pn, pc, rfl, hx, hb⟩
  have HE := Lib.hid (HE.out.trans hb)
  have HP := Lib.hid hx
  clear hb hx
  go_wp2_with fail
  refine (C32.out _ HE.out).mono ?_
  rintro e w3 ⟨qa, qn, qc, rfl, hx, hb⟩
  have HE := Lib.hid (HE.out.trans hb)
  have HP := Lib.hid (HP.out.ext hb)
  have HQ := Lib.hid hx
  clear hb hx
  go_wp2_with fail
  refine (wI _ _ _ _ HP.out HQ.out).mono ?_
  rintro e w4 ⟨rfl, hb⟩
  have HE := Lib.hid (HE.out.trans hb)
  clear hb
  go_wp2_with fail
  refine (works18 _).mono ?_
  rintro e w99 ⟨rfl, hb⟩
  have HE := Lib.hid (HE.out.trans hb)
  clear hb
  go_wp2
  go_ret
  exact ⟨rfl, HE.out⟩
end Go.Proofs.Ytclcippfodjfeaa
