/- fine, by its contract. -/
import Derived.Test.YtcgheakadfjofaaG0
import Derived.Test.YtcgheakadfjofaaH0
namespace Go.Proofs.Ytcgheakadfjofaa
open Go.RowKit
set_option linter.unusedVariables false
set_option linter.unusedSimpArgs false
attribute [local go_sem] Oper.semAt_some
set_option maxRecDepth 100000 in
set_option maxHeartbeats 1000000 in
theorem fine40 (a a' : Option Addr) (cap cap' : Nat) (th bd : List Int) (r : Rl) (w : World) (hlen : th.length ≤ cap ∧ cap ≤ 9223372036854775807) (hlen' : bd.length ≤ cap' ∧ cap' ≤ 9223372036854775807) (hr : th.length ≤ 5000 → Reads w (.slice a th.length cap) th) (hr' : bd.length ≤ 5000 → Reads w (.slice a' bd.length cap') bd) :
    ∃ B : Bool, (∀ W, Ext w W → Calls Try.prog 40 #[.agg #[.slice a th.length cap, .slice a' bd.length cap'], r.val] W fun e w' => e = .returned (.bool B) ∧ Ext W w') ∧
      (B = true → bothE th bd r = 0 ∧ Reads w (.slice a th.length cap) th ∧ Reads w (.slice a' bd.length cap') bd) := by
  have H16 := Lib.hid (fun (W : World) => great16 a a' th.length bd.length cap cap' W (by omega) (by omega))
  by_cases hg : 70 < th.length ∨ 70 < bd.length
  · have hG : (decide (70 < th.length) || decide (70 < bd.length)) = true := by simpa using hg
    have HG := Lib.hid hG
    refine ⟨false, fun W hW => ?_, fun h => by cases h⟩
    have HE := Lib.hid (Ext.alloc (Ext.alloc (Ext.refl W) (.cells #[.slice a th.length cap, .slice a' bd.length cap'] 25)) (.cells #[.int .i64 r.lo, .int .i64 r.hi, .int .i64 r.st, .int .i64 r.tr, .int .i64 r.off, .int .i64 r.dv, .int .i64 r.tn] 27))
    have HP := Lib.hid (SR.new W (.slice a th.length cap) (.slice a' bd.length cap') r)
    clear hr hr' hG hg hW
    generalize th.length = n at *
    generalize bd.length = n' at *
    obtain ⟨⟨g1, g2⟩, r0, r1, r2, r3, r4, r5, r6⟩ := HP.out
    go_enter Try.func40, Try.ntmps40
    go_wp2_with fail
    refine (H16.out _).mono ?_
    rintro e w1 ⟨rfl, hb⟩
    have HE := Lib.hid (HE.out.trans hb)
    clear hb
    rw [HG.out]
    go_wp2
    go_ret
    exact ⟨rfl, HE.out⟩
  have hG : (decide (70 < th.length) || decide (70 < bd.length)) = false := by simpa using hg
  have HG := Lib.hid hG
  have ht := hr (by omega)
  have hd := hr' (by omega)
  refine ⟨decide (bothE th bd r = 0), fun W hW => ?_, fun h => ⟨of_decide_eq_true h, ht, hd⟩⟩
  have HE := Lib.hid (Ext.alloc (Ext.alloc (Ext.refl W) (.cells #[.slice a th.length cap, .slice a' bd.length cap'] 25)) (.cells #[.int .i64 r.lo, .int .i64 r.hi, .int .i64 r.st, .int .i64 r.tr, .int .i64 r.off, .int .i64 r.dv, .int .i64 r.tn] 27))
  have HP := Lib.hid (SR.new W (.slice a th.length cap) (.slice a' bd.length cap') r)
  have C53 := Lib.hid (fun (X : World) (h : Ext W X) => refcheck53 _ _ th bd r X (ht.ext (hW.trans h)) (hd.ext (hW.trans h)))
  have hEd : (bothE th bd r == 0) = decide (bothE th bd r = 0) := by rw [Bool.eq_iff_iff]; simp
  generalize bothE th bd r = E at *
  have HD := Lib.hid hEd
  clear hr hr' hG hg hW ht hd hEd
  generalize th.length = n at *
  generalize bd.length = n' at *
  obtain ⟨⟨g1, g2⟩, r0, r1, r2, r3, r4, r5, r6⟩ := HP.out
  go_enter Try.func40, Try.ntmps40
  go_wp2_with fail
  refine (H16.out _).mono ?_
  rintro e w1 ⟨rfl, hb⟩
  obtain ⟨⟨g1, g2⟩, r0, r1, r2, r3, r4, r5, r6⟩ := HP.out.ext hb
  have HE := Lib.hid (HE.out.trans hb)
  clear hb
  rw [HG.out]
  go_wp2_with fail
  refine (C53.out _ HE.out).mono ?_
  rintro e w2 ⟨rfl, hb⟩
  have HE := Lib.hid (HE.out.trans hb)
  clear hb
  go_wp2
  go_ret
  refine ⟨ret_bool ?_, HE.out⟩
  first | rfl | exact HD.out | (simp)
end Go.Proofs.Ytcgheakadfjofaa
