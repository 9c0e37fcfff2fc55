/- Loss. -/
import Derived.Test.YtcgheakadfjofaaD3
import Derived.Test.YtcgheakadfjofaaB19
import Derived.BigQuiet
import Derived.Deep.QuietTactic
namespace Go.Proofs.Ytcgheakadfjofaa
open Go.RowKit Go.Shelf
set_option linter.unusedVariables false
set_option linter.unusedSimpArgs false
attribute [local go_sem] Oper.semAt_some
theorem Reads.takeS {w : World} {a : Option Addr} {n cap : Nat} {xs : List Int} (h : Reads w (.slice a n cap) xs) {m : Nat} (hm : m ≤ xs.length) (h0 : 0 < m) : Reads w (.slice a m cap) (xs.take m) := by
  obtain ⟨hl, a', cap', e, h⟩ := h
  cases e
  have hlen : (xs.take m).length = m := by simp; omega
  rcases h with ⟨rfl, rfl⟩ | ⟨b, off, rfl, hc⟩
  · simp at hm; omega
  · refine ⟨by omega, _, cap, by rw [hlen], .inr ⟨b, off, rfl, fun i hi => ?_⟩⟩
    rw [hlen] at hi
    have := hc i (by omega)
    rw [List.getElem?_take_of_lt hi]; exact this
theorem Vw.take {th bd : List Int} {r : Rl} (h : Vw th bd r) {m : Nat} (hm : 1 ≤ m) (hl : m ≤ th.length) : Vw (th.take m) bd r :=
  ⟨by simp; omega, by simp; have := h.most; omega, fun x hx => h.thick x (List.mem_of_mem_take hx), h.up, h.rule⟩
theorem YardOwn.cutTo {w₀ W : World} {b : Nat} {a : Option Addr} {n cap : Nat} {vb : Value} {th bd : List Int} {r : Rl} {ps : List Int} (h : YardOwn w₀ W b (.slice a n cap) vb th bd r ps) {m : Nat} (hm : m ≤ th.length) (h0 : 0 < m) :
    YardOwn w₀ (W.setCell ⟨b, 0, none⟩ (.slice a m cap)) b (.slice a m cap) vb (th.take m) bd r ps := by
  have hE := grown_new h.ext0 (grown_set W b 0 (.slice a m cap)) h.new
  have h1 := h.th0.takeS hm h0
  refine ⟨⟨?_, h1.ext hE, h.bd0.ext hE, h.at_.len⟩, h1, h.bd0, h.new, hE⟩
  rw [set_blk h.at_.blk]; rfl
/-- What Loss gives. -/
def lossE (th bd : List Int) (r : Rl) (p : Int) : Int × Int :=
  if placedE th bd r [p] ≠ 0 then (0, placedE th bd r [p]) else (bst (sF th bd r) allB (th.length - 1) 0 - bst (sF th bd r) allB (th.length - 1) p.toNat - bst (sF th bd r) allB p.toNat 0, 0)
theorem placedE_one {th bd : List Int} {r : Rl} {p : Int} (h : placedE th bd r [p] = 0) : bothE th bd r = 0 ∧ 0 ≤ p ∧ p ≤ (th.length : Int) - 1 := by
  unfold placedE at h
  split at h
  · rename_i h0
    refine ⟨h0, ?_⟩
    by_cases hin : inn 0 ((th.length : Int) - 1) [p] = true
    · simp [inn] at hin; exact hin
    · rw [if_neg hin] at h; cases h
  · rename_i h0; exact absurd h h0
theorem bst_takeF {th bd : List Int} {r : Rl} {k : Nat} (lt : Nat → Nat → Bool) : bst (sF (th.take (k + 1)) bd r) lt k 0 = bst (sF th bd r) lt k 0 :=
  bst_congr (fun i j h1 h2 => ⟨sF_take (by omega), rfl⟩) (Nat.zero_le _)
set_option maxRecDepth 100000 in
set_option maxHeartbeats 4000000 in
theorem loss36 (a : Option Addr) (n1 cap : Nat) (vb : Value) (th bd : List Int) (r : Rl) (p : Int) (w : World) (ht : Reads w (.slice a n1 cap) th) (hcap : n1 ≤ cap) (hd : Reads w vb bd) :
    Calls Try.prog 36 #[.agg #[.slice a n1 cap, vb], r.val, .int .i64 p] w fun e w' => e = .returned (.tuple #[.int .i64 (lossE th bd r p).1, .int .i64 (lossE th bd r p).2]) ∧ Ext w w' := by
  have hn : n1 = th.length := by obtain ⟨_, _, _, e, _⟩ := ht; cases e; rfl
  have E0 := Lib.hid (Ext.alloc (Ext.alloc (Ext.refl w) (.cells #[.slice a n1 cap, vb] 25)) (.cells #[.int .i64 r.lo, .int .i64 r.hi, .int .i64 r.st, .int .i64 r.tr, .int .i64 r.off, .int .i64 r.dv, .int .i64 r.tn] 27))
  have P0 := Lib.hid ((StemAt.new w (.slice a n1 cap) (vb) 25).ext (Ext.alloc (Ext.refl _) (.cells #[.int .i64 r.lo, .int .i64 r.hi, .int .i64 r.st, .int .i64 r.tr, .int .i64 r.off, .int .i64 r.dv, .int .i64 r.tn] 27)))
  have R0 := RuleAt.new (w.alloc (.cells #[.slice a n1 cap, vb] 25)) r 27
  rw [World.size_alloc] at R0
  have R0 := Lib.hid R0
  have E3 := Lib.hid (Ext.alloc E0.out (.cells #[.int .i64 p] 3))
  have h62 := fun (W : World) (h : Ext w W) (v3 : Value) (h3 : Reads W v3 [p]) => openP62 _ _ v3 th bd [p] r W (ht.ext h) (hd.ext h) h3
  have H3 := Lib.hid (Reads.new ((w.alloc (.cells #[.slice a n1 cap, vb] 25)).alloc (.cells #[.int .i64 r.lo, .int .i64 r.hi, .int .i64 r.st, .int .i64 r.tr, .int .i64 r.off, .int .i64 r.dv, .int .i64 r.tn] 27)) [p] 3 (w.heap.size + 1 + 1) (by simp) (by simp) _ rfl 1 1 rfl)
  have hok := fun h => placedE_one (th := th) (bd := bd) (r := r) (p := p) h
  have hE := show lossE th bd r p = if placedE th bd r [p] ≠ 0 then (0, placedE th bd r [p]) else (bst (sF th bd r) allB (th.length - 1) 0 - bst (sF th bd r) allB (th.length - 1) p.toNat - bst (sF th bd r) allB p.toNat 0, 0) from rfl
  generalize lossE th bd r p = fe at *
  generalize placedE th bd r [p] = PE at *
  have hvw : bothE th bd r = 0 → Vw th bd r ∧ 2 ≤ th.length := fun h => by
    obtain ⟨h1, h2⟩ := bothE_ok.1 h
    exact ⟨h1.weak h2, h1.two⟩
  have HE := Lib.hid hE; have H62 := Lib.hid h62; have HOK := Lib.hid hok; have HVW := Lib.hid hvw; have HN := Lib.hid hn
  have hl := ht.1
  rw [← hn] at hl
  clear hE h62 hok hvw hn ht hd
  have ⟨g1, g2⟩ := P0.out.ext (Ext.alloc (Ext.refl _) (.cells #[.int .i64 p] 3))
  have ⟨r0, r1, r2, r3, r4, r5, r6⟩ := R0.out.ext (Ext.alloc (Ext.refl _) (.cells #[.int .i64 p] 3))
  have ⟨g1', g2'⟩ := P0.out
  have ⟨r0', r1', r2', r3', r4', r5', r6'⟩ := R0.out
  go_enter Try.func36, Try.ntmps36
  go_wp2_with fail
  refine (H62.out _ E3.out _ H3.out).mono ?_
  rintro e w1 ⟨⟨hbe, rfl⟩ | ⟨rfl, b, rfl, hyo⟩, hb⟩
  · have hbn : (PE != 0) = true := by simpa using hbe
    have E4 := Lib.hid (E3.out.trans hb)
    have hre := Lib.hid (show fe = (0, PE) from by rw [HE.out, if_pos hbe])
    clear g1 g2 r0 r1 r2 r3 r4 r5 r6 g1' g2' r0' r1' r2' r3' r4' r5' r6' hb hbe HE
    go_wp2
    go_ret2
    exact ⟨by rw [hre.out]; rfl, E4.out⟩
  · obtain ⟨hb0, hp0, hp1⟩ := HOK.out rfl
    obtain ⟨hv, h2⟩ := HVW.out hb0
    obtain ⟨k, rfl⟩ := Int.eq_ofNat_of_zero_le hp0
    have hre := HE.out
    rw [if_neg (by simp), Int.toNat_natCast] at hre
    have h61 := hv.most
    rw [← HN.out] at hp1 h61 h2 hre
    obtain ⟨n, rfl⟩ : ∃ n, n1 = n + 1 := ⟨n1 - 1, by omega⟩
    rw [Nat.add_sub_cancel] at hre
    have hF1 := bst_takeF (th := th) (bd := bd) (r := r) (k := k) allB
    have HV2 := Lib.hid (hv.take (m := k + 1) (by omega) (by rw [← HN.out]; omega))
    have hB0 := bst_M hv HN.out.symm allB 0
    have hB1 := bst_M hv HN.out.symm allB k
    have HL2 := Lib.hid (show (th.take (k + 1)).length = k + 1 from by simp; rw [← HN.out]; omega)
    have hB2 := bst_M HV2.out HL2.out allB 0
    rw [hF1] at hB2
    have k0 := hyo.at_.price (k := 0) (by omega)
    have k1 := hyo.at_.price (k := k) (by omega)
    rw [bestP_get (by omega), ← HN.out, Nat.add_sub_cancel] at k0 k1
    obtain ⟨x0, hx0⟩ : ∃ x, x = bst (sF th bd r) allB n 0 := ⟨_, rfl⟩
    obtain ⟨x1, hx1⟩ : ∃ x, x = bst (sF th bd r) allB n k := ⟨_, rfl⟩
    obtain ⟨x2, hx2⟩ : ∃ x, x = bst (sF th bd r) allB k 0 := ⟨_, rfl⟩
    rw [← hx0] at hB0 k0 hre
    rw [← hx1] at hB1 k1 hre
    rw [← hx2] at hB2 hre hF1
    have HRE := Lib.hid hre; have HF1 := Lib.hid hF1
    have hka : (0 : Int) ≤ (k : Int) := by omega
    have hkb : (k : Int) < 61 := by omega
    have hkt : (k : Int).toNat = k := by omega
    have hkw : IntKind.i64.wrap ((k : Int) + 1) = (k : Int) + 1 := wrapi64 _ (by omega) (by omega)
    have hkc : (0 : Int) ≤ (k : Int) + 1 := by omega
    have hkd : (k : Int) + 1 ≤ (cap : Int) := by omega
    have hkt2 : ((k : Int) + 1).toNat = k + 1 := by omega
    have hw1 : IntKind.i64.wrap (x0 - x1) = x0 - x1 := wrapi64 _ (by omega) (by omega)
    have hw2 : IntKind.i64.wrap (x0 - x1 - x2) = x0 - x1 - x2 := wrapi64 _ (by omega) (by omega)
    have HYA := Lib.hid hyo
    clear g1 g2 r0 r1 r2 r3 r4 r5 r6 g1' g2' r0' r1' r2' r3' r4' r5' r6' hb HE hre hF1 hx0 hx1 hx2 hyo hv HOK HVW H62 H3
    go_wp2
    go_quiet (fail)
    have hy1 := HYA.out.ext ((Ext.refl w1).drewN nq)
    have c0 := hy1.at_.cells.1
    have kf := frozen_of_blk hy1.at_.blk 0
    have HYO := Lib.hid (hy1.cutTo (m := k + 1) (by rw [← HN.out]; omega) (by omega))
    clear hy1 k0 k1 HYA
    go_wp2_with fail
    refine (price_any (sF (th.take (k + 1)) bd r) k b _ vb (th.take (k + 1)) bd r _ HV2.out rfl HL2.out _ _ HYO.out).mono ?_
    rintro e w3 ⟨rfl, hy3, hg3⟩
    have k9 := hy3.at_.price (k := 0) (by omega)
    rw [psK_get _ (Nat.le_refl _) (by omega), HF1.out] at k9
    have HY3 := Lib.hid hy3.ext0
    clear hy3 hg3 HYO c0 kf
    go_wp2
    go_ret2
    exact ⟨by rw [HRE.out]; rfl, E3.out.trans HY3.out⟩
end Go.Proofs.Ytcgheakadfjofaa
