/- GapRows, by its contract. -/
import Derived.Test.YtclcippfodjfeaaF2
import Derived.Test.YtclcippfodjfeaaR3
namespace Go.Proofs.Ytclcippfodjfeaa
open Go.RowKit
set_option linter.unusedVariables false
set_option linter.unusedSimpArgs false
attribute [local go_sem] Oper.semAt_some
set_option maxRecDepth 100000 in
set_option maxHeartbeats 4000000 in
theorem rows3 (a : Option Addr) (cap : Nat) (row : List Int) (many : Int) (a2 : Option Addr) (cap2 : Nat) (t : List Int) (w : World) (hlen : row.length ≤ cap ∧ cap ≤ 9223372036854775807) (hr : row.length ≤ 5000 → Reads w (.slice a row.length cap) row) (hlen2 : t.length ≤ cap2 ∧ cap2 ≤ 9223372036854775807) (hr2 : t.length ≤ 5000 → Reads w (.slice a2 t.length cap2) t) :
    Calls Try.prog 3 #[.slice a row.length cap, .int .i64 many, .slice a2 t.length cap2] w fun e w' => e = .returned (.bool true) ∧ Ext w w' := by
  obtain ⟨n, hn⟩ : ∃ n, n = row.length := ⟨_, rfl⟩
  rw [← hn] at hlen hr ⊢
  obtain ⟨n2, hn2⟩ : ∃ n2, n2 = t.length := ⟨_, rfl⟩
  rw [← hn2] at hlen2 hr2 ⊢
  by_cases hg : 40 < n
  · have hG : decide (40 < n) = true := by simpa using hg
    clear hr hr2 hg hn hn2
    go_enter Try.func3, Try.ntmps3
    have HE := Lib.hid (Ext.refl w)
    go_wp2_with fail
    refine (great17 a n cap _).mono ?_
    rintro e w1 ⟨rfl, rfl⟩
    rw [hG]
    go_wp2_with fail
    refine (works18 _).mono ?_
    rintro e w99 ⟨rfl, hb⟩
    have HE := Lib.hid (HE.out.trans hb)
    clear hb
    go_wp2
    go_ret
    exact ⟨rfl, HE.out⟩
  have hG : decide (40 < n) = false := by simpa using hg
  by_cases hg2 : 40 < n2
  · have hz : decide ((n2 : Int) > 40) = true := by simp; omega
    have hz2 : decide ((40 : Int) < n2) = true := by simp; omega
    have hz3 : decide (40 < n2) = true := by simp; omega
    clear hr hr2 hg hn hn2
    go_enter Try.func3, Try.ntmps3
    have HE := Lib.hid (Ext.refl w)
    go_wp2_with fail
    refine (great17 a n cap _).mono ?_
    rintro e w1 ⟨rfl, rfl⟩
    rw [hG]
    go_wp2_with fail
    refine (works18 _).mono ?_
    rintro e w99 ⟨rfl, hb⟩
    have HE := Lib.hid (HE.out.trans hb)
    clear hb
    go_wp2
    go_ret
    exact ⟨rfl, HE.out⟩
  have hz : decide ((n2 : Int) > 40) = false := by simp; omega
  have hz2 : decide ((40 : Int) < n2) = false := by simp; omega
  have hz3 : decide (40 < n2) = false := by simp; omega
  have hR := hr (by omega); have hT := hr2 (by omega)
  have C19 := Lib.hid (fun (W : World) (h : Ext w W) => checkTurning19 _ _ row t many W (hR.ext h) (hT.ext h))
  have C20 := Lib.hid (fun (W : World) (h : Ext w W) => refTurning20 _ _ row t many W (hR.ext h) (hT.ext h))
  have C21 := Lib.hid (fun (W : World) (h : Ext w W) => row21 _ row W (hR.ext h))
  have C22 := Lib.hid (fun (W : World) (h : Ext w W) => refRow22 _ row W (hR.ext h))
  generalize (turnV row many t).1 = x at C19 C20
  generalize (turnV row many t).2 = c at C19 C20
  generalize chkR row = d at C21 C22
  clear hr hr2 hg hn hn2 hg2 hR hT
  go_enter Try.func3, Try.ntmps3
  have HE := Lib.hid (Ext.refl w)
  go_wp2_with fail
  refine (great17 a n cap _).mono ?_
  rintro e w1 ⟨rfl, rfl⟩
  rw [hG]
  go_wp2_with fail
  refine (C19.out _ HE.out).mono ?_
  rintro e w2 ⟨rfl, hb⟩
  have HE := Lib.hid (HE.out.trans hb)
  clear hb
  go_wp2_with fail
  refine (C20.out _ HE.out).mono ?_
  rintro e w3 ⟨rfl, hb⟩
  have HE := Lib.hid (HE.out.trans hb)
  clear hb
  go_wp2_with fail
  refine (C21.out _ HE.out).mono ?_
  rintro e w4 ⟨rfl, rfl⟩
  go_wp2_with fail
  refine (C22.out _ HE.out).mono ?_
  rintro e w5 ⟨rfl, rfl⟩
  go_wp2_with fail
  refine (works18 _).mono ?_
  rintro e w99 ⟨rfl, hb⟩
  have HE := Lib.hid (HE.out.trans hb)
  clear hb
  go_wp2
  go_ret
  exact ⟨rfl, HE.out⟩
end Go.Proofs.Ytclcippfodjfeaa
