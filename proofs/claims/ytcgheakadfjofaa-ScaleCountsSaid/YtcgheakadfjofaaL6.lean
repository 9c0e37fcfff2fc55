/- ScaleCounts, by its contract. -/
import Derived.Test.YtcgheakadfjofaaP4
namespace Go.Proofs.Ytcgheakadfjofaa
open Go.RowKit
set_option linter.unusedVariables false
set_option linter.unusedSimpArgs false
attribute [local go_sem] Oper.semAt_some
set_option maxRecDepth 100000 in
set_option maxHeartbeats 1000000 in
theorem counts6 (a a' : Option Addr) (cap cap' : Nat) (th bd : List Int) (r : Rl) (p : Int) (w : World) (hlen : th.length ≤ cap ∧ cap ≤ 9223372036854775807) (hlen' : bd.length ≤ cap' ∧ cap' ≤ 9223372036854775807) (hr : th.length ≤ 5000 → Reads w (.slice a th.length cap) th) (hr' : bd.length ≤ 5000 → Reads w (.slice a' bd.length cap') bd) :
    Calls Try.prog 6 #[.agg #[.slice a th.length cap, .slice a' bd.length cap'], r.val, .int .i64 p] w fun e w' => e = .returned (.bool true) ∧ Ext w w' := by
  obtain ⟨n, hn⟩ : ∃ n, n = th.length := ⟨_, rfl⟩
  obtain ⟨n', hn'⟩ : ∃ n', n' = bd.length := ⟨_, rfl⟩
  rw [← hn] at hlen hr ⊢
  rw [← hn'] at hlen' hr' ⊢
  have E0 := Lib.hid (Ext.alloc (Ext.alloc (Ext.refl w) (.cells #[.slice a n cap, .slice a' n' cap'] 25)) (.cells #[.int .i64 r.lo, .int .i64 r.hi, .int .i64 r.st, .int .i64 r.tr, .int .i64 r.off, .int .i64 r.dv, .int .i64 r.tn] 27))
  have P0 := Lib.hid (SR.new w (.slice a n cap) (.slice a' n' cap') r)
  have H16 := Lib.hid (fun (W : World) => great16 a a' n n' cap cap' W (by omega) (by omega))
  by_cases hg : 70 < n ∨ 70 < n'
  · have hG : (decide (70 < n) || decide (70 < n')) = true := by simpa using hg
    have HG := Lib.hid hG
    clear hr hr' hG hg hn hn'
    obtain ⟨⟨g1, g2⟩, r0, r1, r2, r3, r4, r5, r6⟩ := P0.out
    have HE := E0
    have HP := P0
    go_enter Try.func6, Try.ntmps6
    go_wp2_with fail
    refine (H16.out _).mono ?_
    rintro e w1 ⟨rfl, hb⟩
    obtain ⟨⟨g1, g2⟩, r0, r1, r2, r3, r4, r5, r6⟩ := HP.out.ext hb
    have HE := Lib.hid (HE.out.trans hb)
    have HP := Lib.hid (HP.out.ext hb)
    clear hb
    rw [HG.out]
    go_wp2_with fail
    refine (works17 _).mono ?_
    rintro e w9 ⟨rfl, hb⟩
    have HE := Lib.hid (HE.out.trans hb); clear hb
    go_wp2
    go_ret
    exact ⟨rfl, HE.out⟩
  have hG : (decide (70 < n) || decide (70 < n')) = false := by simpa using hg
  have HG := Lib.hid hG
  have ht := hr (by omega)
  have hd := hr' (by omega)
  have C32 := Lib.hid (fun (W : World) (h : Ext w W) => count32 _ _ th bd r W (ht.ext h) (hd.ext h))
  have C33 := Lib.hid (fun (W : World) (h : Ext w W) => refcount33 _ _ th bd r W (ht.ext h) (hd.ext h))
  have C34 := Lib.hid (fun (W : World) (h : Ext w W) => kind34 a n cap (.slice a' n' cap') th bd r p W (ht.ext h) (hd.ext h))
  have C35 := Lib.hid (fun (W : World) (h : Ext w W) => refkind35 (.slice a n cap) (.slice a' n' cap') th bd r p W (ht.ext h) (hd.ext h))
  have C36 := Lib.hid (fun (W : World) (h : Ext w W) => loss36 a n cap (.slice a' n' cap') th bd r p W (ht.ext h) hlen.1 (hd.ext h))
  have C37 := Lib.hid (fun (W : World) (h : Ext w W) => refloss37 (.slice a n cap) (.slice a' n' cap') th bd r p W (ht.ext h) (hd.ext h))
  generalize (countE th bd r).1 = x1 at C32 C33
  generalize (countE th bd r).2 = x2 at C32 C33
  generalize (kindE th bd r p).1 = y1 at C34 C35
  generalize (kindE th bd r p).2 = y2 at C34 C35
  generalize (lossE th bd r p).1 = z1 at C36 C37
  generalize (lossE th bd r p).2 = z2 at C36 C37
  clear hr hr' hG hg ht hd hn hn'
  obtain ⟨⟨g1, g2⟩, r0, r1, r2, r3, r4, r5, r6⟩ := P0.out
  have HE := E0
  have HP := P0
  go_enter Try.func6, Try.ntmps6
  go_wp2_with fail
  refine (H16.out _).mono ?_
  rintro e w1 ⟨rfl, hb⟩
  obtain ⟨⟨g1, g2⟩, r0, r1, r2, r3, r4, r5, r6⟩ := HP.out.ext hb
  have HE := Lib.hid (HE.out.trans hb)
  have HP := Lib.hid (HP.out.ext hb)
  clear hb
  rw [HG.out]
  go_wp2_with fail
  refine (C32.out _ HE.out).mono ?_
  rintro e w2 ⟨rfl, hb⟩
  obtain ⟨⟨g1, g2⟩, r0, r1, r2, r3, r4, r5, r6⟩ := HP.out.ext hb
  have HE := Lib.hid (HE.out.trans hb)
  have HP := Lib.hid (HP.out.ext hb)
  clear hb
  go_wp2_with fail
  refine (C33.out _ HE.out).mono ?_
  rintro e w3 ⟨rfl, hb⟩
  obtain ⟨⟨g1, g2⟩, r0, r1, r2, r3, r4, r5, r6⟩ := HP.out.ext hb
  have HE := Lib.hid (HE.out.trans hb)
  have HP := Lib.hid (HP.out.ext hb)
  clear hb
  go_wp2_with fail
  refine (C34.out _ HE.out).mono ?_
  rintro e w4 ⟨rfl, hb⟩
  obtain ⟨⟨g1, g2⟩, r0, r1, r2, r3, r4, r5, r6⟩ := HP.out.ext hb
  have HE := Lib.hid (HE.out.trans hb)
  have HP := Lib.hid (HP.out.ext hb)
  clear hb
  go_wp2_with fail
  refine (C35.out _ HE.out).mono ?_
  rintro e w5 ⟨rfl, hb⟩
  obtain ⟨⟨g1, g2⟩, r0, r1, r2, r3, r4, r5, r6⟩ := HP.out.ext hb
  have HE := Lib.hid (HE.out.trans hb)
  have HP := Lib.hid (HP.out.ext hb)
  clear hb
  go_wp2_with fail
  refine (C36.out _ HE.out).mono ?_
  rintro e w6 ⟨rfl, hb⟩
  obtain ⟨⟨g1, g2⟩, r0, r1, r2, r3, r4, r5, r6⟩ := HP.out.ext hb
  have HE := Lib.hid (HE.out.trans hb)
  have HP := Lib.hid (HP.out.ext hb)
  clear hb
  go_wp2_with fail
  refine (C37.out _ HE.out).mono ?_
  rintro e w7 ⟨rfl, hb⟩
  obtain ⟨⟨g1, g2⟩, r0, r1, r2, r3, r4, r5, r6⟩ := HP.out.ext hb
  have HE := Lib.hid (HE.out.trans hb)
  have HP := Lib.hid (HP.out.ext hb)
  clear hb
  go_wp2_with fail
  refine (works17 _).mono ?_
  rintro e w9 ⟨rfl, hb⟩
  have HE := Lib.hid (HE.out.trans hb); clear hb
  go_wp2
  go_ret
  exact ⟨rfl, HE.out⟩
end Go.Proofs.Ytcgheakadfjofaa
