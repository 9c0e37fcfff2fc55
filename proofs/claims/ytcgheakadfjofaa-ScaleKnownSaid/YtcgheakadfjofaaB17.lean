/- openPriced, by its contract. -/
import Derived.Test.YtcgheakadfjofaaB16
namespace Go.Proofs.Ytcgheakadfjofaa
open Go.RowKit Go.Shelf
set_option linter.unusedVariables false
set_option linter.unusedSimpArgs false
/-- The error of a stem, a rule, and places. -/
def placedE (th bd : List Int) (r : Rl) (pls : List Int) : Int := if bothE th bd r = 0 then (if inn 0 ((th.length : Int) - 1) pls = true then 0 else 2) else bothE th bd r
/-- The least right prices. -/
def bestP (th bd : List Int) (r : Rl) : List Int := psK (bst (sF th bd r) allB (th.length - 1)) 0
def OpenedP (w : World) (vt vb : Value) (th bd : List Int) (r : Rl) (ps : List Int) (E : Int) (e : Ending) (w' : World) : Prop :=
  (E ≠ 0 ∧ e = .returned (.tuple #[.pointer none, .int .i64 E]) ∨ E = 0 ∧ ∃ b, e = .returned (.tuple #[.pointer (some ⟨b, 0, none⟩), .int .i64 0]) ∧ YardOwn w w' b vt vb th bd r ps) ∧ Ext w w'
set_option maxRecDepth 100000 in
set_option maxHeartbeats 4000000 in
theorem openP62 (vt vb v3 : Value) (th bd pls : List Int) (r : Rl) (w : World) (ht : Reads w vt th) (hd : Reads w vb bd) (h3 : Reads w v3 pls) :
    Calls Try.prog 62 #[.agg #[vt, vb], r.val, v3] w (OpenedP w vt vb th bd r (bestP th bd r) (placedE th bd r pls)) := by
  obtain ⟨hl, a, cap, rfl⟩ := ht.shape
  obtain ⟨hl', a', cap', rfl⟩ := hd.shape
  obtain ⟨n, hn⟩ : ∃ n, n = th.length := ⟨_, rfl⟩
  obtain ⟨n', hn'⟩ : ∃ n', n' = bd.length := ⟨_, rfl⟩
  rw [← hn] at ht hl ⊢
  rw [← hn'] at hd ⊢
  have E0 := Lib.hid (Ext.alloc (Ext.alloc (Ext.refl w) (.cells #[.slice a n cap, .slice a' n' cap'] 25)) (.cells #[.int .i64 r.lo, .int .i64 r.hi, .int .i64 r.st, .int .i64 r.tr, .int .i64 r.off, .int .i64 r.dv, .int .i64 r.tn] 27))
  have P0 := Lib.hid ((StemAt.new w (.slice a n cap) (.slice a' n' cap') 25).ext (Ext.alloc (Ext.refl _) (.cells #[.int .i64 r.lo, .int .i64 r.hi, .int .i64 r.st, .int .i64 r.tr, .int .i64 r.off, .int .i64 r.dv, .int .i64 r.tn] 27)))
  have R0 := RuleAt.new (w.alloc (.cells #[.slice a n cap, .slice a' n' cap'] 25)) r 27
  rw [World.size_alloc] at R0
  have R0 := Lib.hid R0
  have hplE : bothE th bd r = 0 → placedE th bd r pls = if inn 0 ((n : Int) - 1) pls = true then 0 else 2 := fun h => by unfold placedE; rw [if_pos h, hn]
  have hplE2 : bothE th bd r ≠ 0 → placedE th bd r pls = bothE th bd r := fun h => by unfold placedE; rw [if_neg h]
  have h50 := fun (W : World) (h : Ext w W) => open50 _ _ th bd r W (ht.ext h) (hd.ext h)
  have h55 := fun (W : World) (h : Ext w W) => within55 0 ((n : Int) - 1) v3 pls W (h3.ext h)
  have hok : bothE th bd r = 0 → Vw th bd r ∧ ∃ m, th.length = m + 1 := fun h => by
    obtain ⟨h1, h2⟩ := bothE_ok.1 h
    exact ⟨h1.weak h2, th.length - 1, by have := h1.two; omega⟩
  have hw1 : IntKind.i64.wrap ((n : Int) - 1) = (n : Int) - 1 := wrapi64 _ (by omega) (by omega)
  obtain ⟨BE, hBE⟩ : ∃ BE, BE = bothE th bd r := ⟨_, rfl⟩
  rw [← hBE] at hplE hplE2 h50 hok
  have HT := Lib.hid ht; have HD := Lib.hid hd; have HN := Lib.hid hn; have H50 := Lib.hid h50; have HOK := Lib.hid hok; have HPE := Lib.hid hplE; have HPE2 := Lib.hid hplE2
  clear ht hd h3 hn hn' h50 hok hplE hplE2 hBE
  by_cases hbe : BE = 0
  · subst hbe
    rw [HPE.out rfl]
    obtain ⟨hv, m, hm⟩ := HOK.out rfl
    have HV := Lib.hid hv; have HM := Lib.hid hm
    clear hv hm
    cases hin : inn 0 ((n : Int) - 1) pls
    all_goals
      rw [hin] at h55
      have H55 := Lib.hid h55
      clear h55 hin
      go_enter Try.func62, Try.ntmps62
      have ⟨g1, g2⟩ := P0.out
      have ⟨r0, r1, r2, r3, r4, r5, r6⟩ := R0.out
      go_wp2_with fail
      refine (H50.out _ E0.out).mono ?_
      rintro e w1 ⟨h0 | ⟨-, b, rfl, hb1, hyd⟩, hb⟩
      · exact absurd rfl h0.1
      have hyo : YardOwn w w1 b (.slice a n cap) (.slice a' n' cap') th bd r zeros := ⟨hyd, HT.out, HD.out, Nat.le_trans E0.out.size hb1, E0.out.trans hb⟩
      have E1 := Lib.hid (E0.out.trans hb)
      clear g1 g2 r0 r1 r2 r3 r4 r5 r6 hb hb1
      obtain ⟨c0, -⟩ := hyd.cells
      have HYO := Lib.hid hyo
      clear hyo hyd
      go_wp2_with fail
      refine (H55.out _ E1.out).mono ?_
      rintro e w2 ⟨rfl, rfl⟩
    · go_wp2
      go_ret2
      exact ⟨.inl ⟨by simp, rfl⟩, E1.out⟩
    · go_wp2_with fail
      refine (price_any _ m b _ _ th bd r zeros HV.out rfl HM.out w w1 HYO.out).mono ?_
      rintro e w3 ⟨rfl, hy3, hg3⟩
      have HY3 := Lib.hid hy3
      clear hy3 hg3
      go_wp2
      go_ret2
      refine ⟨.inr ⟨rfl, b, rfl, ?_⟩, HY3.out.ext0⟩
      unfold bestP
      rw [show th.length - 1 = m from by have := HM.out; omega]
      exact HY3.out
  · rw [HPE2.out hbe]
    have hbn : (BE != 0) = true := by simpa using hbe
    have HBE := Lib.hid hbe
    clear hbe
    go_enter Try.func62, Try.ntmps62
    have ⟨g1, g2⟩ := P0.out
    have ⟨r0, r1, r2, r3, r4, r5, r6⟩ := R0.out
    go_wp2_with fail
    refine (H50.out _ E0.out).mono ?_
    rintro e w1 ⟨⟨-, rfl⟩ | ⟨h0, -⟩, hb⟩
    · have E1 := Lib.hid (E0.out.trans hb)
      clear g1 g2 r0 r1 r2 r3 r4 r5 r6 hb
      go_wp2
      go_ret2
      exact ⟨.inl ⟨HBE.out, rfl⟩, E1.out⟩
    · exact absurd h0 HBE.out
end Go.Proofs.Ytcgheakadfjofaa
