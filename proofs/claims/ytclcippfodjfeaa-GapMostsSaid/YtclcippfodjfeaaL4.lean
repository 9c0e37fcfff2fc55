/- GapMosts, by its contract. -/
import Derived.Test.YtclcippfodjfeaaL2
namespace Go.Proofs.Ytclcippfodjfeaa
open Go.RowKit
set_option linter.unusedVariables false
set_option linter.unusedSimpArgs false
attribute [local go_sem] Oper.semAt_some
set_option maxRecDepth 100000 in
set_option maxHeartbeats 4000000 in
theorem mosts4 (a : Option Addr) (cap : Nat) (row : List Int) (many : Int) (w : World) (hlen : row.length ≤ cap ∧ cap ≤ 9223372036854775807) (hr : row.length ≤ 5000 → Reads w (.slice a row.length cap) row) :
    Calls Try.prog 4 #[.slice a row.length cap, .int .i64 many] w fun e w' => e = .returned (.bool true) ∧ Ext w w' := by
  obtain ⟨n, hn⟩ : ∃ n, n = row.length := ⟨_, rfl⟩
  rw [← hn] at hlen hr ⊢
  by_cases hg : 40 < n
  · have hG : decide (40 < n) = true := by simpa using hg
    clear hr hg hn
    go_enter Try.func4, Try.ntmps4
    have HE := Lib.hid (Ext.refl w)
    go_wp2_with fail
    refine (great17 a n cap _).mono ?_
    rintro e w1 ⟨rfl, rfl⟩
    rw [hG]
    go_wp2_with fail
    refine (works18 _).mono ?_
    rintro e w99 ⟨rfl, hb⟩
    have HE := Lib.hid (HE.out.trans hb)
    clear hb
    go_wp2
    go_ret
    exact ⟨rfl, HE.out⟩
  have hG : decide (40 < n) = false := by simpa using hg
  have hR := hr (by omega)
  have c23 := (fun (W : World) (h : Ext w W) => most23 _ row many W (hR.ext h))
  have c24 := (fun (W : World) (h : Ext w W) => refMost24 _ row many W (hR.ext h))
  have C25 := Lib.hid (fun (W : World) (h : Ext w W) => fewest25 _ row W (hR.ext h))
  have C26 := Lib.hid (fun (W : World) (h : Ext w W) => refFewest26 _ row W (hR.ext h))
  have C27 := Lib.hid (fun (W : World) (h : Ext w W) => listRef_of (shape27 _ row W (hR.ext h)))
  have C28 := Lib.hid (fun (W : World) (h : Ext w W) => listRef_of (refShape28 _ row W (hR.ext h)))
  generalize (if chkR row = 0 then ((tab row).length : Int) else 0) = f at C25 C26
  generalize chkR row = d at C25 C26 C27 C28
  generalize shapeI row = xs at C27 C28
  by_cases hA : askE row many = 0
  · have C29 := Lib.hid (fun (W : World) (h : Ext w W) => turn29ok _ row many W (hR.ext h) hA)
    rw [if_pos hA, hA] at c23 c24
    have C23 := Lib.hid c23; have C24 := Lib.hid c24; have HR := Lib.hid hR
    generalize mostV row many = mv at C23 C24 C29
    clear hr hg hn hR c23 c24 hA
    go_enter Try.func4, Try.ntmps4
    have HE := Lib.hid (Ext.refl w)
    go_wp2_with fail
    refine (great17 a n cap _).mono ?_
    rintro e w1 ⟨rfl, rfl⟩
    rw [hG]
    go_wp2_with fail
    refine (C23.out _ HE.out).mono ?_
    rintro e w2 ⟨rfl, hb⟩
    have HE := Lib.hid (HE.out.trans hb)
    clear hb
    go_wp2_with fail
    refine (C24.out _ HE.out).mono ?_
    rintro e w3 ⟨rfl, hb⟩
    have HE := Lib.hid (HE.out.trans hb)
    clear hb
    go_wp2_with fail
    refine (C25.out _ HE.out).mono ?_
    rintro e w4 ⟨rfl, hb⟩
    have HE := Lib.hid (HE.out.trans hb)
    clear hb
    go_wp2_with fail
    refine (C26.out _ HE.out).mono ?_
    rintro e w5 ⟨rfl, hb⟩
    have HE := Lib.hid (HE.out.trans hb)
    clear hb
    go_wp2_with fail
    refine (C27.out _ HE.out).mono ?_
    rintro e w6 ⟨pa, pn, pc, rfl, hx, hb⟩
    have HE := Lib.hid (HE.out.trans hb)
    have HP := Lib.hid hx
    clear hb hx
    go_wp2_with fail
    refine (C28.out _ HE.out).mono ?_
    rintro e w7 ⟨qa, qn, qc, rfl, hx, hb⟩
    have HE := Lib.hid (HE.out.trans hb)
    have HP := Lib.hid (HP.out.ext hb)
    have HQ := Lib.hid hx
    clear hb hx
    go_wp2_with fail
    refine (C29.out _ HE.out).mono ?_
    rintro e w8 ⟨t, ta, tn, tc, ht0, rfl, hx, hb⟩
    have HE := Lib.hid (HE.out.trans hb)
    have HP := Lib.hid (HP.out.ext hb)
    have HQ := Lib.hid (HQ.out.ext hb)
    have HT := Lib.hid hx; have HT0 := Lib.hid ht0
    clear hb hx ht0
    go_wp2_with fail
    refine (wI _ _ _ _ HP.out HQ.out).mono ?_
    rintro e w9 ⟨rfl, hb⟩
    have HE := Lib.hid (HE.out.trans hb)
    have HT := Lib.hid (HT.out.ext hb)
    clear hb
    go_wp2_with fail
    refine (turn20 _ _ _ _ _ _ _ _ (HR.out.ext HE.out) HT.out HT0.out).mono ?_
    rintro e w10 ⟨rfl, hb⟩
    have HE := Lib.hid (HE.out.trans hb)
    clear hb
    go_wp2_with fail
    refine (works18 _).mono ?_
    rintro e w99 ⟨rfl, hb⟩
    have HE := Lib.hid (HE.out.trans hb)
    clear hb
    go_wp2
    go_ret
    exact ⟨rfl, HE.out⟩
  · have C29 := Lib.hid (fun (W : World) (h : Ext w W) => turn29no _ row many W (hR.ext h) hA)
    rw [if_neg hA] at c23 c24
    have C23 := Lib.hid c23; have C24 := Lib.hid c24
    have hd : (askE row many != 0) = true := by simpa using hA
    generalize askE row many = c at *
    clear hr hg hn hR c23 c24 hA
    go_enter Try.func4, Try.ntmps4
    have HE := Lib.hid (Ext.refl w)
    go_wp2_with fail
    refine (great17 a n cap _).mono ?_
    rintro e w1 ⟨rfl, rfl⟩
    rw [hG]
    go_wp2_with fail
    refine (C23.out _ HE.out).mono ?_
    rintro e w2 ⟨rfl, hb⟩
    have HE := Lib.hid (HE.out.trans hb)
    clear hb
    go_wp2_with fail
    refine (C24.out _ HE.out).mono ?_
    rintro e w3 ⟨rfl, hb⟩
    have HE := Lib.hid (HE.out.trans hb)
    clear hb
    go_wp2_with fail
    refine (C25.out _ HE.out).mono ?_
    rintro e w4 ⟨rfl, hb⟩
    have HE := Lib.hid (HE.out.trans hb)
    clear hb
    go_wp2_with fail
    refine (C26.out _ HE.out).mono ?_
    rintro e w5 ⟨rfl, hb⟩
    have HE := Lib.hid (HE.out.trans hb)
    clear hb
    go_wp2_with fail
    refine (C27.out _ HE.out).mono ?_
    rintro e w6 ⟨pa, pn, pc, rfl, hx, hb⟩
    have HE := Lib.hid (HE.out.trans hb)
    have HP := Lib.hid hx
    clear hb hx
    go_wp2_with fail
    refine (C28.out _ HE.out).mono ?_
    rintro e w7 ⟨qa, qn, qc, rfl, hx, hb⟩
    have HE := Lib.hid (HE.out.trans hb)
    have HP := Lib.hid (HP.out.ext hb)
    have HQ := Lib.hid hx
    clear hb hx
    go_wp2_with fail
    refine (C29.out _ HE.out).mono ?_
    rintro e w8 ⟨rfl, hb⟩
    have HE := Lib.hid (HE.out.trans hb)
    have HP := Lib.hid (HP.out.ext hb)
    have HQ := Lib.hid (HQ.out.ext hb)
    clear hb
    go_wp2_with fail
    refine (wI _ _ _ _ HP.out HQ.out).mono ?_
    rintro e w9 ⟨rfl, hb⟩
    have HE := Lib.hid (HE.out.trans hb)
    clear hb
    go_wp2_with fail
    refine (works18 _).mono ?_
    rintro e w99 ⟨rfl, hb⟩
    have HE := Lib.hid (HE.out.trans hb)
    clear hb
    go_wp2
    go_ret
    exact ⟨rfl, HE.out⟩
end Go.Proofs.Ytclcippfodjfeaa
