/- ScaleStems, by its contract. -/
import Derived.Test.YtcgheakadfjofaaG0
import Derived.Test.YtcgheakadfjofaaC7
namespace Go.Proofs.Ytcgheakadfjofaa
open Go.RowKit
set_option linter.unusedVariables false
set_option linter.unusedSimpArgs false
attribute [local go_sem] Oper.semAt_some
theorem of_and10s {a b c d e f g h i : Prop} {j : Prop} (k : a ∧ b ∧ c ∧ d ∧ e ∧ f ∧ g ∧ h ∧ i ∧ Hid j) : j := k.2.2.2.2.2.2.2.2.2.out
set_option maxRecDepth 100000 in
set_option maxHeartbeats 8000000 in
theorem stems3 (a a' : Option Addr) (cap cap' : Nat) (th bd : List Int) (r : Rl) (i j : Int) (w : World) (hlen : th.length ≤ cap ∧ cap ≤ 9223372036854775807) (hlen' : bd.length ≤ cap' ∧ cap' ≤ 9223372036854775807) (hr : th.length ≤ 5000 → Reads w (.slice a th.length cap) th) (hr' : bd.length ≤ 5000 → Reads w (.slice a' bd.length cap') bd) :
    Calls Try.prog 3 #[.agg #[.slice a th.length cap, .slice a' bd.length cap'], r.val, .agg #[.int .i64 i, .int .i64 j]] w fun e w' => e = .returned (.bool true) ∧ Ext w w' := by
  obtain ⟨n, hn⟩ : ∃ n, n = th.length := ⟨_, rfl⟩
  obtain ⟨n', hn'⟩ : ∃ n', n' = bd.length := ⟨_, rfl⟩
  rw [← hn] at hlen hr ⊢
  rw [← hn'] at hlen' hr' ⊢
  have E0 := Lib.hid (Ext.alloc (Ext.alloc (Ext.alloc (Ext.refl w) (.cells #[.slice a n cap, .slice a' n' cap'] 25)) (.cells #[.int .i64 r.lo, .int .i64 r.hi, .int .i64 r.st, .int .i64 r.tr, .int .i64 r.off, .int .i64 r.dv, .int .i64 r.tn] 27)) (.cells #[.int .i64 i, .int .i64 j] 29))
  have P0 := Lib.hid ((SR.new w (.slice a n cap) (.slice a' n' cap') r).ext (Ext.alloc (Ext.refl _) (.cells #[.int .i64 i, .int .i64 j] 29)))
  have l0 : (((w.alloc (.cells #[.slice a n cap, .slice a' n' cap'] 25)).alloc (.cells #[.int .i64 r.lo, .int .i64 r.hi, .int .i64 r.st, .int .i64 r.tr, .int .i64 r.off, .int .i64 r.dv, .int .i64 r.tn] 27)).alloc (.cells #[.int .i64 i, .int .i64 j] 29)).cell? ⟨w.heap.size + 1 + 1, 0, none⟩ = some (.int .i64 i) := World.cell?_alloc_at _ _ _ _ (by simp)
  have l1 : (((w.alloc (.cells #[.slice a n cap, .slice a' n' cap'] 25)).alloc (.cells #[.int .i64 r.lo, .int .i64 r.hi, .int .i64 r.st, .int .i64 r.tr, .int .i64 r.off, .int .i64 r.dv, .int .i64 r.tn] 27)).alloc (.cells #[.int .i64 i, .int .i64 j] 29)).cell? ⟨w.heap.size + 1 + 1, 1, none⟩ = some (.int .i64 j) := World.cell?_alloc_at _ _ _ _ (by simp)
  have L0 := Lib.hid l0; have L1 := Lib.hid l1
  have H16 := Lib.hid (fun (W : World) => great16 a a' n n' cap cap' W (by omega) (by omega))
  by_cases hg : 70 < n ∨ 70 < n'
  · have hG : (decide (70 < n) || decide (70 < n')) = true := by simpa using hg
    have HG := Lib.hid hG
    clear hr hr' hG hg hn hn'
    obtain ⟨⟨g1, g2⟩, r0, r1, r2, r3, r4, r5, r6⟩ := P0.out
    have HE := E0
    have HP := P0
    go_enter Try.func3, Try.ntmps3
    go_wp2_with fail
    refine (H16.out _).mono ?_
    rintro e w1 ⟨rfl, hb⟩
    obtain ⟨⟨g1, g2⟩, r0, r1, r2, r3, r4, r5, r6⟩ := HP.out.ext hb
    have HE := Lib.hid (HE.out.trans hb)
    have HP := Lib.hid (HP.out.ext hb)
    clear hb
    rw [HG.out]
    go_wp2_with fail
    refine (works17 _).mono ?_
    rintro e w9 ⟨rfl, hb⟩
    have HE := Lib.hid (HE.out.trans hb); clear hb
    go_wp2
    go_ret
    exact ⟨rfl, HE.out⟩
  have hG : (decide (70 < n) || decide (70 < n')) = false := by simpa using hg
  have HG := Lib.hid hG
  have ht := hr (by omega)
  have hd := hr' (by omega)
  have C18 := Lib.hid (fun (W : World) (h : Ext w W) => feet18 _ _ th bd r i j W (ht.ext h) (hd.ext h))
  have C19 := Lib.hid (fun (W : World) (h : Ext w W) => reffeet19 _ _ th bd r i j W (ht.ext h) (hd.ext h))
  have C20 := Lib.hid (fun (W : World) (h : Ext w W) => stem20 _ _ th bd W (ht.ext h) (hd.ext h))
  have C21 := Lib.hid (fun (W : World) (h : Ext w W) => refstem21 _ _ th bd W (ht.ext h) (hd.ext h))
  have C22 := Lib.hid (fun (W : World) => rule22 r W)
  have C23 := Lib.hid (fun (W : World) => refrule23 r W)
  generalize (feetE th bd r i j).1 = x at C18 C19
  generalize (feetE th bd r i j).2 = c at C18 C19
  generalize stemE th bd = y at C20 C21
  generalize ruleE r = z at C22 C23
  clear hr hr' hG hg ht hd hn hn'
  obtain ⟨⟨g1, g2⟩, r0, r1, r2, r3, r4, r5, r6⟩ := P0.out
  have HE := E0
  have HP := P0
  go_enter Try.func3, Try.ntmps3
  go_wp2_with fail
  refine (H16.out _).mono ?_
  rintro e w1 ⟨rfl, hb⟩
  obtain ⟨⟨g1, g2⟩, r0, r1, r2, r3, r4, r5, r6⟩ := HP.out.ext hb
  have HE := Lib.hid (HE.out.trans hb)
  have HP := Lib.hid (HP.out.ext hb)
  have l0 := cell_ext hb l0
  have l1 := cell_ext hb l1
  clear hb
  rw [HG.out]
  go_wp2_with fail
  refine (C18.out _ HE.out).mono ?_
  rintro e w2 ⟨rfl, hb⟩
  obtain ⟨⟨g1, g2⟩, r0, r1, r2, r3, r4, r5, r6⟩ := HP.out.ext hb
  have HE := Lib.hid (HE.out.trans hb)
  have HP := Lib.hid (HP.out.ext hb)
  have l0 := cell_ext hb l0
  have l1 := cell_ext hb l1
  clear hb
  go_wp2_with fail
  refine (C19.out _ HE.out).mono ?_
  rintro e w3 ⟨rfl, hb⟩
  obtain ⟨⟨g1, g2⟩, r0, r1, r2, r3, r4, r5, r6⟩ := HP.out.ext hb
  have HE := Lib.hid (HE.out.trans hb)
  have HP := Lib.hid (HP.out.ext hb)
  clear hb
  clear HP P0 E0 L0 L1 l0 l1 H16
  go_wp2
  have KP : ∀ X X' : World, (X.cell? ⟨w.heap.size, 0, none⟩ = some (.slice a n cap) ∧ X.cell? ⟨w.heap.size, 1, none⟩ = some (.slice a' n' cap') ∧ X.cell? ⟨w.heap.size + 1, 0, none⟩ = some (.int .i64 r.lo) ∧ X.cell? ⟨w.heap.size + 1, 1, none⟩ = some (.int .i64 r.hi) ∧ X.cell? ⟨w.heap.size + 1, 2, none⟩ = some (.int .i64 r.st) ∧ X.cell? ⟨w.heap.size + 1, 3, none⟩ = some (.int .i64 r.tr) ∧ X.cell? ⟨w.heap.size + 1, 4, none⟩ = some (.int .i64 r.off) ∧ X.cell? ⟨w.heap.size + 1, 5, none⟩ = some (.int .i64 r.dv) ∧ X.cell? ⟨w.heap.size + 1, 6, none⟩ = some (.int .i64 r.tn) ∧ Hid (Ext w3 X)) → Ext X X' → (X'.cell? ⟨w.heap.size, 0, none⟩ = some (.slice a n cap) ∧ X'.cell? ⟨w.heap.size, 1, none⟩ = some (.slice a' n' cap') ∧ X'.cell? ⟨w.heap.size + 1, 0, none⟩ = some (.int .i64 r.lo) ∧ X'.cell? ⟨w.heap.size + 1, 1, none⟩ = some (.int .i64 r.hi) ∧ X'.cell? ⟨w.heap.size + 1, 2, none⟩ = some (.int .i64 r.st) ∧ X'.cell? ⟨w.heap.size + 1, 3, none⟩ = some (.int .i64 r.tr) ∧ X'.cell? ⟨w.heap.size + 1, 4, none⟩ = some (.int .i64 r.off) ∧ X'.cell? ⟨w.heap.size + 1, 5, none⟩ = some (.int .i64 r.dv) ∧ X'.cell? ⟨w.heap.size + 1, 6, none⟩ = some (.int .i64 r.tn) ∧ Hid (Ext w3 X')) :=
    fun X X' h hb => ⟨cell_ext hb h.1, cell_ext hb h.2.1, cell_ext hb h.2.2.1, cell_ext hb h.2.2.2.1, cell_ext hb h.2.2.2.2.1, cell_ext hb h.2.2.2.2.2.1, cell_ext hb h.2.2.2.2.2.2.1, cell_ext hb h.2.2.2.2.2.2.2.1, cell_ext hb h.2.2.2.2.2.2.2.2.1, Ext.trans (of_and10s h) hb⟩
  have HKP := Lib.hid KP; clear KP
  go_region_held3 (fun X => X.cell? ⟨w.heap.size, 0, none⟩ = some (.slice a n cap) ∧ X.cell? ⟨w.heap.size, 1, none⟩ = some (.slice a' n' cap') ∧ X.cell? ⟨w.heap.size + 1, 0, none⟩ = some (.int .i64 r.lo) ∧ X.cell? ⟨w.heap.size + 1, 1, none⟩ = some (.int .i64 r.hi) ∧ X.cell? ⟨w.heap.size + 1, 2, none⟩ = some (.int .i64 r.st) ∧ X.cell? ⟨w.heap.size + 1, 3, none⟩ = some (.int .i64 r.tr) ∧ X.cell? ⟨w.heap.size + 1, 4, none⟩ = some (.int .i64 r.off) ∧ X.cell? ⟨w.heap.size + 1, 5, none⟩ = some (.int .i64 r.dv) ∧ X.cell? ⟨w.heap.size + 1, 6, none⟩ = some (.int .i64 r.tn) ∧ Hid (Ext w3 X))
    (first | assumption | exact ⟨g1, g2, r0, r1, r2, r3, r4, r5, r6, Ext.drew (Ext.refl _)⟩ | exact HKP.out _ _ (by assumption) hb)
    (first | (go_at_call 20; refine (C20.out _ (HE.out.trans (of_and10s (by assumption)))).mono ?_; rintro e w' ⟨rfl, hb⟩)
           | (go_at_call 21; refine (C21.out _ (HE.out.trans (of_and10s (by assumption)))).mono ?_; rintro e w' ⟨rfl, hb⟩)
           | (go_at_call 22; refine (C22.out _).mono ?_; rintro e w' ⟨rfl, hb⟩)
           | (go_at_call 23; refine (C23.out _).mono ?_; rintro e w' ⟨rfl, hb⟩)
           | (go_at_call 17; refine (works17 _).mono ?_; rintro e w' ⟨rfl, hb⟩))
  all_goals
    rename_i hk
    have HK := Lib.hid (HE.out.trans (of_and10s hk))
    go_wp2
    go_ret
    exact ⟨rfl, HK.out⟩
end Go.Proofs.Ytcgheakadfjofaa
