/- ScaleThicker, by its contract. -/
import Derived.Test.YtcgheakadfjofaaU1
import Derived.Test.YtcgheakadfjofaaY1
import Derived.Deep.DeepCutAuto
import Derived.Deep.RegionHeld3
namespace Go.Proofs.Ytcgheakadfjofaa
open Go.RowKit
set_option linter.unusedVariables false
set_option linter.unusedSimpArgs false
attribute [local go_sem] Oper.semAt_some
/-- By how much a place is thicker than the next one more. -/
def mkI (ns : List Nat) (i : Nat) : Int := ((ns[i]?.getD 0 % 3 : Nat) : Int)
theorem mkI_bd (ns : List Nat) (i : Nat) : 0 ≤ mkI ns i ∧ mkI ns i ≤ 2 := by unfold mkI; omega
theorem way_blk {u w6 : World} {X g : Nat} {o : Obj} (hu : u.heap[X]? = some o) (hG : u.grownBy w6 (some g)) (hne : X ≠ g) : w6.heap[X]? = some o := by
  rw [hG.block X (lt_of_blk hu) (by intro e; cases e; exact hne rfl)]; exact hu
theorem way_cells {w6 : World} {X : Nat} {u v : Value} {t : TypeId} (h : w6.heap[X]? = some (.cells #[u, v] t (0, 0))) : w6.cell? ⟨X, 0, none⟩ = some u ∧ w6.cell? ⟨X, 1, none⟩ = some v ∧ w6.frozen? ⟨X, 0, none⟩ = false ∧ w6.frozen? ⟨X, 1, none⟩ = false ∧ ∀ y, (w6.setCell ⟨X, 0, none⟩ y).cell? ⟨X, 1, none⟩ = some v ∧ (w6.setCell ⟨X, 0, none⟩ y).frozen? ⟨X, 1, none⟩ = false :=
  ⟨cell_of_blk h rfl, cell_of_blk h rfl, frozen_of_blk h 0, frozen_of_blk h 1, fun y => by
    have q1 := set_blk (o := 0) (cs := [u, v]) h y
    exact ⟨cell_of_blk q1 rfl, frozen_of_blk q1 1⟩⟩
theorem wayL {w1 u w6 : World} {v6 : Value} {g0 n : Nat} {th : List Int} (hE : Ext w1 u) (hg0 : w1.heap.size ≤ g0) (hO : OwnI 2 w1.heap.size w6 v6 ([] ++ th)) (hG : u.grownBy w6 (some g0)) (hV : v6.ownBlock = some g0 ∨ v6.ownBlock = some u.heap.size) (hn : th.length = n) (h0 : 0 < n) :
    ∃ g cap, v6 = .slice (some ⟨g, 0, none⟩) n cap ∧ (g = g0 ∨ g = u.heap.size) ∧ Ext w1 w6 ∧ OwnI 2 w1.heap.size w6 (.slice (some ⟨g, 0, none⟩) n cap) th ∧ u.heap.size ≤ w6.heap.size := by
  subst hn
  rw [List.nil_append] at hO
  obtain ⟨g, cap, rfl, -⟩ := World.ownsRow.form hO h0
  refine ⟨g, cap, rfl, ?_, Below.grown hE hG hE.size (fun k hk => by cases hk; exact hg0), hO, hG.size⟩
  rcases hV with h | h
  · left; simpa [Value.ownBlock] using h
  · right; simpa [Value.ownBlock] using h
theorem ThkX.ofA {w1 w6 : World} {g n cap : Nat} {bv : Value} {th : List Int} (hX : Ext w1 w6) (hO : OwnI 2 w1.heap.size w6 (.slice (some ⟨g, 0, none⟩) n cap) th) (hn : th.length = n) : ThkX w1 (w6.alloc (.cells #[.slice (some ⟨g, 0, none⟩) n cap, bv] 25)) w6.heap.size g n cap bv th :=
  ⟨hX.alloc _, hX.size, fun e => by have := (hO.lt g rfl).2; omega, hn.symm, heap_alloc_new _ _, hO.ext ((Ext.refl _).alloc _)⟩
theorem ThkX.ofB {w1 w6 : World} {X g n cap : Nat} {u v bv : Value} {th : List Int} (hX : Ext w1 w6) (hO : OwnI 2 w1.heap.size w6 (.slice (some ⟨g, 0, none⟩) n cap) th) (hn : th.length = n) (hB : w6.heap[X]? = some (.cells #[u, v] 25 (0, 0))) (hX1 : w1.heap.size ≤ X) (hne : X ≠ g) :
    ThkX w1 ((w6.setCell ⟨X, 0, none⟩ (.slice (some ⟨g, 0, none⟩) n cap)).setCell ⟨X, 1, none⟩ bv) X g n cap bv th := by
  have g1 := grown_set w6 X 0 (.slice (some ⟨g, 0, none⟩) n cap)
  have g2 := grown_set (w6.setCell ⟨X, 0, none⟩ (.slice (some ⟨g, 0, none⟩) n cap)) X 1 bv
  have h1 : World.ownsRow w6 w1.heap.size 2 1 (.slice (some ⟨g, 0, none⟩) n cap) th.length (th.map (Value.int .i64)) := hO
  refine ⟨grown_new (grown_new hX g1 hX1) g2 hX1, hX1, hne, hn.symm, ?_, ?_⟩
  · have q1 := set_blk (o := 0) (cs := [u, v]) hB (.slice (some ⟨g, 0, none⟩) n cap)
    have q2 := set_blk (o := 1) q1 bv
    exact q2
  · exact (h1.kept g1 (.inr (by intro e; cases e; exact hne rfl))).kept g2 (.inr (by intro e; cases e; exact hne rfl))
theorem wayZ {w1 u w6 : World} {v6 : Value} {g0 n : Nat} {zs : List Int} (hE : Ext w1 u) (hg0 : w1.heap.size ≤ g0) (hO : OwnI 2 w1.heap.size w6 v6 zs) (hG : u.grownBy w6 (some g0)) (hV : v6.ownBlock = some g0 ∨ v6.ownBlock = some u.heap.size) (hn : zs.length = n) (h0 : 0 < n) :
    ∃ g cap, v6 = .slice (some ⟨g, 0, none⟩) n cap ∧ (g = g0 ∨ g = u.heap.size) ∧ Ext w1 w6 ∧ OwnI 2 w1.heap.size w6 (.slice (some ⟨g, 0, none⟩) n cap) zs ∧ u.heap.size ≤ w6.heap.size ∧ g < w6.heap.size := by
  have h1 : OwnI 2 w1.heap.size w6 v6 ([] ++ zs) := hO
  obtain ⟨g, cap, h2, h3, h4, h5, h6⟩ := wayL hE hg0 h1 hG hV hn h0
  exact ⟨g, cap, h2, h3, h4, h5, h6, (h5.lt g rfl).2⟩
theorem ThkX.badX {w2 W : World} {X g n cap : Nat} {xs : List Int} (h : ThkX w2 W X g n cap (.slice none 0 0) xs) : BadX w2 W X (.slice (some ⟨g, 0, none⟩) n cap) (.slice none 0 0) [] := ⟨h.ext, h.new, h.blk, OwnI.nil _ _ _⟩
/-- A stem of the call's own, whose bad feet grow; all else that was there stays. -/
structure ZX (wB wc W : World) (Z : Nat) (tv bv : Value) (bs : List Int) : Prop where
  ext : Ext wB W
  size : wc.heap.size ≤ W.heap.size
  new : wB.heap.size ≤ Z
  lt : Z < wc.heap.size
  keep : ∀ k, k < wc.heap.size → k ≠ Z → W.heap[k]? = wc.heap[k]?
  blk : W.heap[Z]? = some (.cells #[tv, bv] 25 (0, 0))
  own : OwnI 3 wc.heap.size W bv bs
theorem ZX.made {wB wc : World} {Z g n cap : Nat} {xs : List Int} (h : ThkX wB wc Z g n cap (.slice none 0 0) xs) : ZX wB wc wc Z (.slice (some ⟨g, 0, none⟩) n cap) (.slice none 0 0) [] :=
  ⟨h.ext, Nat.le_refl _, h.new, lt_of_blk h.blk, fun _ _ _ => rfl, h.blk, OwnI.nil _ _ _⟩
theorem ZX.turn {wB wc W W' : World} {Z : Nat} {tv bv : Value} {bs : List Int} (h : ZX wB wc W Z tv bv bs) (hb : Ext W W') : ZX wB wc W' Z tv bv bs :=
  ⟨h.ext.trans hb, Nat.le_trans h.size hb.size, h.new, h.lt, fun k hk hz => (hb.block k (Nat.lt_of_lt_of_le hk h.size)).trans (h.keep k hk hz), block_ext hb h.blk, h.own.ext hb⟩
theorem ZX.cells {wB wc W : World} {Z : Nat} {tv bv : Value} {bs : List Int} (h : ZX wB wc W Z tv bv bs) : W.cell? ⟨Z, 0, none⟩ = some tv ∧ W.cell? ⟨Z, 1, none⟩ = some bv ∧ W.frozen? ⟨Z, 1, none⟩ = false :=
  ⟨cell_of_blk h.blk rfl, cell_of_blk h.blk rfl, frozen_of_blk h.blk 1⟩
theorem ZX.mid {wB wc W w6 : World} {Z : Nat} {tv bv : Value} {bs : List Int} (h : ZX wB wc W Z tv bv bs) (hB : Below wc.heap.size W w6) : w6.cell? ⟨Z, 1, none⟩ = some bv ∧ w6.frozen? ⟨Z, 1, none⟩ = false := by
  have hb : w6.heap[Z]? = some (.cells #[tv, bv] 25 (0, 0)) := by rw [hB.block Z h.lt]; exact h.blk
  exact ⟨cell_of_blk hb rfl, frozen_of_blk hb 1⟩
theorem ZX.put {wB wc W w6 : World} {Z : Nat} {tv bv v6 : Value} {bs bs' : List Int} (h : ZX wB wc W Z tv bv bs) (hB : Below wc.heap.size W w6) (hO : OwnI 3 wc.heap.size w6 v6 bs') : ZX wB wc (w6.setCell ⟨Z, 1, none⟩ v6) Z tv v6 bs' := by
  have hb : w6.heap[Z]? = some (.cells #[tv, bv] 25 (0, 0)) := by rw [hB.block Z h.lt]; exact h.blk
  have hg := grown_set w6 Z 1 v6
  have h1 : Ext wB w6 := Below.trans h.ext (hB.mono (Nat.le_of_lt (Nat.lt_of_le_of_lt h.new h.lt)))
  refine ⟨grown_new h1 hg h.new, Nat.le_trans (Nat.le_trans h.size hB.size) hg.size, h.new, h.lt, fun k hk hz => ?_, ?_, hO.grown hg h.lt⟩
  · rw [hg.block k (Nat.lt_of_lt_of_le hk (Nat.le_trans h.size hB.size)) (by intro e; cases e; exact hz rfl), hB.block k hk]
    exact h.keep k hk hz
  · rw [set_blk hb]; rfl
theorem ZX.reads {wB wc W : World} {Z g n cap : Nat} {tv bv : Value} {bs xs : List Int} (h : ZX wB wc W Z tv bv bs) (hr : Reads wc (.slice (some ⟨g, 0, none⟩) n cap) xs) (hne : Z ≠ g) (h0 : 0 < xs.length) : Reads W (.slice (some ⟨g, 0, none⟩) n cap) xs := by
  obtain ⟨hl, a, cap', e, hc⟩ := hr
  cases e
  refine ⟨hl, _, cap, rfl, .inr ⟨g, 0, rfl, fun i hi => ?_⟩⟩
  rcases hc with ⟨h1, -⟩ | ⟨b, off, e, hc⟩
  · cases h1
  · cases e
    have h2 := hc i hi
    have hlt := lt_of_cell h2
    rw [← h2]
    simp only [World.cell?, h.keep g hlt (Ne.symm hne)]
set_option maxRecDepth 100000 in
set_option maxHeartbeats 8000000 in
theorem thick10 (a a' : Option Addr) (cap cap' : Nat) (th bd : List Int) (r : Rl) (a8 : Option Addr) (cap8 : Nat) (ns : List Nat) (ft : Nat) (w : World) (hlen : th.length ≤ cap ∧ cap ≤ 9223372036854775807) (hlen' : bd.length ≤ cap' ∧ cap' ≤ 9223372036854775807) (hr : th.length ≤ 5000 → Reads w (.slice a th.length cap) th) (hr' : bd.length ≤ 5000 → Reads w (.slice a' bd.length cap') bd) (hlen8 : ns.length ≤ cap8 ∧ cap8 ≤ 9223372036854775807) (hb8 : ∀ x ∈ ns, x ≤ 255) (hr8 : ns.length ≤ 5000 → Reads8 w (.slice a8 ns.length cap8) ns) (hft : ft ≤ 255) :
    Calls Try.prog 10 #[.agg #[.slice a th.length cap, .slice a' bd.length cap'], r.val, .slice a8 ns.length cap8, .int .u8 (ft : Int)] w fun e w' => e = .returned (.bool true) ∧ Ext w w' := by
  obtain ⟨BF, hf1, hf2⟩ := fine40 a a' cap cap' th bd r w hlen hlen' hr hr'
  have C40 := Lib.hid hf1
  obtain ⟨n, hn⟩ : ∃ n, n = th.length := ⟨_, rfl⟩
  obtain ⟨n', hn'⟩ : ∃ n', n' = bd.length := ⟨_, rfl⟩
  obtain ⟨n8, hn8⟩ : ∃ n8, n8 = ns.length := ⟨_, rfl⟩
  rw [← hn] at hlen hr ⊢
  rw [← hn'] at hlen' hr' ⊢
  rw [← hn8] at hlen8 hr8 ⊢
  have E0 := Lib.hid (Ext.alloc (Ext.alloc (Ext.refl w) (.cells #[.slice a n cap, .slice a' n' cap'] 25)) (.cells #[.int .i64 r.lo, .int .i64 r.hi, .int .i64 r.st, .int .i64 r.tr, .int .i64 r.off, .int .i64 r.dv, .int .i64 r.tn] 27))
  have P0 := Lib.hid (SR.new w (.slice a n cap) (.slice a' n' cap') r)
  rw [← hn, ← hn'] at C40 hf2
  cases BF with
  | false =>
    clear hr hr' hf1 hf2 hn hn' hn8 hr8 hb8
    obtain ⟨⟨g1, g2⟩, r0, r1, r2, r3, r4, r5, r6⟩ := P0.out
    have HE := E0
    have HP := P0
    go_enter Try.func10, Try.ntmps10
    go_wp2_with fail
    refine (C40.out _ HE.out).mono ?_
    rintro e w1 ⟨rfl, hb⟩
    obtain ⟨⟨g1, g2⟩, r0, r1, r2, r3, r4, r5, r6⟩ := HP.out.ext hb
    have HE := Lib.hid (HE.out.trans hb)
    have HP := Lib.hid (HP.out.ext hb)
    clear hb
    go_wp2_with fail
    refine (works17 _).mono ?_
    rintro e w9 ⟨rfl, hb⟩
    have HE := Lib.hid (HE.out.trans hb); clear hb
    go_wp2
    go_ret
    exact ⟨rfl, HE.out⟩
  | true =>
    obtain ⟨hE, ht, hd⟩ := hf2 rfl
    by_cases h70 : 70 < n8
    · clear hr hr' hf1 hf2 hn hn' hn8 hr8 hb8 hE ht hd
      have hd70 : decide (70 < n8) = true := by simpa using h70
      have hd71 : decide ((70 : Int) < (n8 : Int)) = true := by simp; omega
      obtain ⟨⟨g1, g2⟩, r0, r1, r2, r3, r4, r5, r6⟩ := P0.out
      have HE := E0
      have HP := P0
      go_enter Try.func10, Try.ntmps10
      go_wp2_with fail
      refine (C40.out _ HE.out).mono ?_
      rintro e w1 ⟨rfl, hb⟩
      obtain ⟨⟨g1, g2⟩, r0, r1, r2, r3, r4, r5, r6⟩ := HP.out.ext hb
      have HE := Lib.hid (HE.out.trans hb)
      have HP := Lib.hid (HP.out.ext hb)
      clear hb
      go_wp2_with fail
      refine (works17 _).mono ?_
      rintro e w9 ⟨rfl, hb⟩
      have HE := Lib.hid (HE.out.trans hb); clear hb
      go_wp2
      go_ret
      exact ⟨rfl, HE.out⟩
    · have h8r := hr8 (by omega)
      have HD := Lib.hid hd; have HNB := Lib.hid hn'; have HT0 := Lib.hid ht; have H8 := Lib.hid h8r; have HB8 := Lib.hid hb8; have HN8 := Lib.hid hn8
      obtain ⟨q1, q2⟩ := vs_len hE
      obtain ⟨hvs, hvr⟩ := bothE_ok.1 hE
      obtain ⟨m, hm⟩ : ∃ m, n = m + 1 := ⟨n - 1, by omega⟩
      have hm2 : th.length - 1 = m := by omega
      have hthl : th.length = m + 1 := by omega
      obtain ⟨at_, hat⟩ : ∃ x : Nat, x = ft % m := ⟨_, rfl⟩
      have hatm : at_ < m := by rw [hat]; exact Nat.mod_lt _ (by omega)
      have hpp : (ft : Int) % (m : Int) = (at_ : Int) := by rw [hat]; omega
      have C26 := Lib.hid (fun (W : World) (h : Ext w W) => best26v _ _ th bd r W (ht.ext h) (hd.ext h))
      rw [hE] at C26
      obtain ⟨bl, hbl⟩ : ∃ bl, bl = badL m fun i => hitB (decide (i = at_)) bd i := ⟨_, rfl⟩
      have hbE : bothE th bl r = 0 := by rw [hbl, ← hm2]; exact both_badL hE _
      have C26x := Lib.hid (fun (W : World) (v : Value) (h : Ext w W) (hv : Reads W v bl) => best26v _ _ th bl r W (ht.ext h) hv)
      rw [hbE] at C26x
      have hba : bestV th bl r ≤ bestV th bd r := by
        unfold bestV
        rw [if_pos hE, if_pos hbE, hbl, ← hm2]
        exact bst_badL hvs (fun i hi => hitB_iff.2 (.inr hi)) _
      have hmb := mkI_bd ns
      obtain ⟨tk, htk⟩ : ∃ tk, tk = thkK th (mkI ns) 0 := ⟨_, rfl⟩
      have hkE : bothE tk bd r = 0 := bothE_ok.2 ⟨by rw [htk]; exact vs_thk hvs (fun i => (hmb i).1), hvr⟩
      have C26k := Lib.hid (fun (W : World) (v : Value) (h : Ext w W) (hv : Reads W v tk) => best26v _ _ tk bd r W hv (hd.ext h))
      rw [hkE] at C26k
      have hbk : bestV th bd r ≤ bestV tk bd r := by
        unfold bestV
        rw [if_pos hE, if_pos hkE, htk, thkK_len]
        exact bst_thk hvs hvr (fun i => (hmb i).1) (by omega)
      obtain ⟨tz, htz⟩ : ∃ tz, tz = th.getD 0 0 :: th := ⟨_, rfl⟩
      obtain ⟨bz, hbz⟩ : ∃ bz, bz = bd.map fun b => b + 1 := ⟨_, rfl⟩
      have hz : n ≠ 61 → bothE tz bz r = 0 ∧ bestV th bd r ≤ bestV tz bz r := fun h61 => by
        have hzE : bothE tz bz r = 0 := bothE_ok.2 ⟨by rw [htz, hbz]; exact vs_more hvs (by omega), hvr⟩
        refine ⟨hzE, ?_⟩
        unfold bestV
        rw [if_pos hE, if_pos hzE, htz, hbz]
        have := bst_more (th := th) (bd := bd) (r := r) (th.getD 0 0) (th.length - 1)
        rwa [show (th.getD 0 0 :: th).length - 1 = th.length - 1 + 1 from by simp only [List.length_cons]; omega]
      have C26z := Lib.hid (fun (W : World) (v u : Value) (hv : Reads W v tz) (hu : Reads W u bz) => best26v v u tz bz r W hv hu)
      have hbl5 : bl.length ≤ 5000 := by rw [hbl]; exact Nat.le_trans (badL_len _ _) (by omega)
      have hth0 : ∀ i, i < m + 1 → 0 ≤ th.getD i 0 ∧ th.getD i 0 ≤ 60 := fun i hi => by
        have := getD_in hvs.thick (show i < th.length by omega); omega
      have hbdb : ∀ x ∈ bd, 0 ≤ x ∧ x ≤ 100 := fun x hx => by have := hvs.bad x hx; omega
      generalize bestV th bd r = BA at *
      generalize bestV th bl r = BB at *
      generalize bestV tk bd r = BK at *
      generalize bestV tz bz r = BZ at *
      have hba2 : decide (BB ≤ BA) = true := by simpa using hba
      have hba3 : decide (BA < BB) = false := by simp; omega
      have hbk3 : decide (BK < BA) = false := by simp; omega
      have HZ := Lib.hid hz; have HBL := Lib.hid hbl; have HBL5 := Lib.hid hbl5; have HTK := Lib.hid htk; have HTZ := Lib.hid htz; have HBZ := Lib.hid hbz
      have HTH0 := Lib.hid hth0; have HBB := Lib.hid hbdb; have HTL := Lib.hid hthl
      have hd70 : decide (70 < n8) = false := by simpa using h70
      have hd71 : decide ((70 : Int) < (n8 : Int)) = false := by simp; omega
      have hm1 : 1 ≤ m := by omega
      have hm60 : m ≤ 60 := by omega
      have h870 : n8 ≤ 70 := by omega
      clear hr hr' hf1 hf2 hn hn' hn8 hr8 hb8 h8r ht hd hE hvs hvr hm2 hat hbl hbE hbl5 q1 q2 hba hbk htk hkE htz hbz hz hmb hthl hth0 hbdb h70
      subst hm
      have C43 := Lib.hid (fun (W : World) => long43 a (m + 1) cap (.slice a' n' cap') W (by omega))
      have hm0 : ((m : Int) == 0) = false := by simp; omega
      have hm01 : ¬ (m : Int) = 0 := by omega
      obtain ⟨⟨g1, g2⟩, r0, r1, r2, r3, r4, r5, r6⟩ := P0.out
      have HE := E0
      have HP := P0
      go_enter Try.func10, Try.ntmps10
      go_wp2_with fail
      refine (C40.out _ HE.out).mono ?_
      rintro e w1 ⟨rfl, hb⟩
      obtain ⟨⟨g1, g2⟩, r0, r1, r2, r3, r4, r5, r6⟩ := HP.out.ext hb
      have HE := Lib.hid (HE.out.trans hb)
      have HP := Lib.hid (HP.out.ext hb)
      clear hb
      have HTA := Lib.hid (HT0.out.ext HE.out)
      clear r0 r1 r2 r3 r4 r5 r6
      go_upto_region 3 with fail
      go_cut [9] (fun s9 wx => ∃ X g capx : Nat, s9 = .pointer (some ⟨X, 0, none⟩) ∧ Hid (ThkX w1 wx X g (m + 1) capx (.slice a' n' cap') th))
      case first =>
        have z25 : Obj := .cells #[.slice none 0 0, .slice none 0 0] 25
        have k1 : OwnI 2 w1.heap.size ((w1.alloc (.cells #[] 2)).drew) (.slice (some ⟨w1.heap.size, 0, none⟩) 0 0) [] := World.ownsRow_made w1 (base := w1.heap.size) (e := 2) (size := 1) #[] 0 (Nat.le_refl _) (by simp) rfl
        have k2 : OwnI 2 w1.heap.size (((w1.alloc (.cells #[.slice none 0 0, .slice none 0 0] 25)).alloc (.cells #[] 2)).drew) (.slice (some ⟨w1.heap.size + 1, 0, none⟩) 0 0) [] := by
          have := World.ownsRow_made (w1.alloc (.cells #[.slice none 0 0, .slice none 0 0] 25)) (base := w1.heap.size) (e := 2) (size := 1) #[] 0 (by simp) (by simp) rfl
          rwa [World.size_alloc] at this
        have k3 : OwnI 2 w1.heap.size (((w1.alloc (.cells #[] 2)).alloc (.cells #[.slice none 0 0, .slice none 0 0] 25)).drew) (.slice (some ⟨w1.heap.size, 0, none⟩) 0 0) [] := by
          have : OwnI 2 w1.heap.size (w1.alloc (.cells #[] 2)) (.slice (some ⟨w1.heap.size, 0, none⟩) 0 0) [] := World.ownsRow_made w1 (base := w1.heap.size) (e := 2) (size := 1) #[] 0 (Nat.le_refl _) (by simp) rfl
          exact this.ext (((Ext.refl _).alloc _).drew)
        have e1 := ((Ext.refl w1).alloc (.cells #[] 2)).drew
        have e2 := (((Ext.refl w1).alloc (.cells #[.slice none 0 0, .slice none 0 0] 25)).alloc (.cells #[] 2)).drew
        have e3 := (((Ext.refl w1).alloc (.cells #[] 2)).alloc (.cells #[.slice none 0 0, .slice none 0 0] 25)).drew
        have K1 := Lib.hid k1; have K2 := Lib.hid k2; have K3 := Lib.hid k3; have E1 := Lib.hid e1; have E2 := Lib.hid e2; have E3 := Lib.hid e3
        have R1 := Lib.hid (HTA.out.ext e1); have R2 := Lib.hid (HTA.out.ext e2); have R3 := Lib.hid (HTA.out.ext e3)
        have a0 : ∀ X : Obj, (w1.alloc X).cell? ⟨w.heap.size, 0, none⟩ = some (.slice a (m + 1) cap) := fun X => cell_ext ((Ext.refl w1).alloc X) g1
        have a1 : ∀ X : Obj, (w1.alloc X).cell? ⟨w.heap.size, 1, none⟩ = some (.slice a' n' cap') := fun X => cell_ext ((Ext.refl w1).alloc X) g2
        have b0 : ∀ X Y : Obj, ((w1.alloc X).alloc Y).cell? ⟨w.heap.size, 0, none⟩ = some (.slice a (m + 1) cap) := fun X Y => cell_ext (((Ext.refl w1).alloc X).alloc Y) g1
        have b1 : ∀ X Y : Obj, ((w1.alloc X).alloc Y).cell? ⟨w.heap.size, 1, none⟩ = some (.slice a' n' cap') := fun X Y => cell_ext (((Ext.refl w1).alloc X).alloc Y) g2
        have G1 := Lib.hid g1
        have G2 := Lib.hid g2
        clear a0 a1 b0 b1
        clear k1 k2 k3 e1 e2 e3
        have B2 := Lib.hid (show (((w1.alloc (.cells #[.slice none 0 0, .slice none 0 0] 25)).alloc (.cells #[] 2)).drew).heap[w1.heap.size]? = some (.cells #[.slice none 0 0, .slice none 0 0] 25 (0, 0)) from block_ext (((Ext.refl (w1.alloc (.cells #[.slice none 0 0, .slice none 0 0] 25))).alloc (.cells #[] 2)).drew) (heap_alloc_new w1 _))
        have B3 := Lib.hid (show (((w1.alloc (.cells #[] 2)).alloc (.cells #[.slice none 0 0, .slice none 0 0] 25)).drew).heap[w1.heap.size + 1]? = some (.cells #[.slice none 0 0, .slice none 0 0] 25 (0, 0)) from by
          have := heap_alloc_new (w1.alloc (.cells #[] 2)) (.cells #[.slice none 0 0, .slice none 0 0] 25)
          rw [World.size_alloc] at this
          exact this)
        have L1 := Lib.hid (fun (v6 : Value) (w6 : World) hO6 hG6 hV6 => wayL (v6 := v6) (w6 := w6) (g0 := w1.heap.size) E1.out (Nat.le_refl _) hO6 hG6 hV6 HTL.out (by omega))
        have L2 := Lib.hid (fun (v6 : Value) (w6 : World) hO6 hG6 hV6 => And.intro (wayL (v6 := v6) (w6 := w6) (g0 := w1.heap.size + 1) E2.out (by omega) hO6 hG6 hV6 HTL.out (by omega)) (way_blk (g := w1.heap.size + 1) B2.out hG6 (by omega)))
        have L3 := Lib.hid (fun (v6 : Value) (w6 : World) hO6 hG6 hV6 => And.intro (wayL (v6 := v6) (w6 := w6) (g0 := w1.heap.size) E3.out (Nat.le_refl _) hO6 hG6 hV6 HTL.out (by omega)) (way_blk (g := w1.heap.size) B3.out hG6 (by omega)))
        have S1 := Lib.hid (show w1.heap.size ≤ ((w1.alloc (.cells #[] 2)).drew).heap.size from E1.out.size)
        have S2 := Lib.hid (show w1.heap.size ≤ (((w1.alloc (.cells #[.slice none 0 0, .slice none 0 0] 25)).alloc (.cells #[] 2)).drew).heap.size from E2.out.size)
        have S3 := Lib.hid (show w1.heap.size ≤ (((w1.alloc (.cells #[] 2)).alloc (.cells #[.slice none 0 0, .slice none 0 0] 25)).drew).heap.size from E3.out.size)
        have N0 := Lib.hid (show ([] : List Int).length ≤ 5000 by simp)
        have HKP := Lib.hid (fun (W : World) (h : Ext w1 W) => show W.cell? ⟨w.heap.size, 0, none⟩ = some (.slice a (m + 1) cap) ∧ W.cell? ⟨w.heap.size, 1, none⟩ = some (.slice a' n' cap') from ⟨cell_ext h G1.out, cell_ext h G2.out⟩)
        go_region_held3 (fun W => W.cell? ⟨w.heap.size, 0, none⟩ = some (.slice a (m + 1) cap) ∧ W.cell? ⟨w.heap.size, 1, none⟩ = some (.slice a' n' cap'))
          (first | exact HKP.out _ (Ext.drew (Ext.refl w1)) | exact HKP.out _ (Ext.drew (Ext.alloc (Ext.refl w1) _)) | exact HKP.out _ (Ext.drew (Ext.alloc (Ext.alloc (Ext.refl w1) _) _)) | exact HKP.out _ (by assumption) | exact HKP.out _ (Ext.alloc (by assumption) _) | exact HKP.out _ (grown_new (grown_new (by assumption) (grown_set _ _ _ _) (Nat.le_refl _)) (grown_set _ _ _ _) (Nat.le_refl _)) | exact HKP.out _ (grown_new (grown_new (by assumption) (grown_set _ _ _ _) (Nat.le_succ _)) (grown_set _ _ _ _) (Nat.le_succ _)) | fail)
          (first
          | (refine step_appendSU (by rfl) _ _ (by rfl) _ (by rfl) _ w1.heap.size [] th K1.out S1.out N0.out _ (by rfl) R1.out ?_; intro v6 w6 hO6 hG6 hV6; obtain ⟨g6, cap6, rfl, hg6, hX6, hO, hz⟩ := L1.out v6 w6 hO6 hG6 hV6; have HH := Lib.hid (And.intro hg6 (And.intro hO hz)); clear hO6 hG6 hV6 hg6 hO hz)
          | (refine step_appendSU (by rfl) _ _ (by rfl) _ (by rfl) _ w1.heap.size [] th K2.out S2.out N0.out _ (by rfl) R2.out ?_; intro v6 w6 hO6 hG6 hV6; obtain ⟨⟨g6, cap6, rfl, hg6, hX6, hO, hz⟩, hB⟩ := L2.out v6 w6 hO6 hG6 hV6; obtain ⟨x0, x1, y0, y1, z⟩ := way_cells hB; have HH := Lib.hid (And.intro hg6 (And.intro hO (And.intro hz hB))); clear hO6 hG6 hV6 hg6 hO hz hB)
          | (refine step_appendSU (by rfl) _ _ (by rfl) _ (by rfl) _ w1.heap.size [] th K3.out S3.out N0.out _ (by rfl) R3.out ?_; intro v6 w6 hO6 hG6 hV6; obtain ⟨⟨g6, cap6, rfl, hg6, hX6, hO, hz⟩, hB⟩ := L3.out v6 w6 hO6 hG6 hV6; obtain ⟨x0, x1, y0, y1, z⟩ := way_cells hB; have HH := Lib.hid (And.intro hg6 (And.intro hO (And.intro hz hB))); clear hO6 hG6 hV6 hg6 hO hz hB)
          | fail)
        all_goals go_wp2_with fail
        all_goals go_meet
        · obtain ⟨h1, h2, h3⟩ := HH.out
          exact ⟨_, _, _, rfl, Lib.hid (ThkX.ofA (by assumption) h2 HTL.out)⟩
        · obtain ⟨h1, h2, h3, h4⟩ := HH.out
          exact ⟨_, _, _, rfl, Lib.hid (ThkX.ofB (by assumption) h2 HTL.out h4 (Nat.le_succ _) (by
            rcases h1 with h1 | h1
            · omega
            · simp [World.drew] at h1; omega))⟩
        · obtain ⟨h1, h2, h3, h4⟩ := HH.out
          exact ⟨_, _, _, rfl, Lib.hid (ThkX.ofB (by assumption) h2 HTL.out h4 (Nat.le_refl _) (by
            rcases h1 with h1 | h1
            · omega
            · simp [World.drew] at h1; omega))⟩
      case rest =>
        obtain ⟨X, g, capx, rfl, HX⟩ := hcut
        obtain ⟨c0, c1⟩ := HX.out.cells
        go_wp2_with fail
        go_loopw [10, 11] (fun s10 s11 wr => ∃ k : Nat, k ≤ m + 1 ∧ s11 = .int .i64 ((k : Int) - 1) ∧ s10 = .int .i64 (ovK (mkI ns) (m + 1) k) ∧ Hid (ThkX w1 wr X g (m + 1) capx (.slice a' n' cap') (thkK th (mkI ns) k))) (fun s10 s11 wr => (intV s11 + 1).toNat)
        case atStart => exact ⟨m + 1, Nat.le_refl _, by go_num, by rw [ovK_end], by have := HX.out; rw [← HTL.out, thkK_end]; rw [← HTL.out] at this; exact Lib.hid this⟩
        case round =>
          clear c0 c1
          obtain ⟨k, hk, rfl, rfl, hX⟩ := hrel
          obtain ⟨c0, c1⟩ := hX.out.cells
          by_cases hk0 : 0 < k
          · obtain ⟨i, rfl⟩ : ∃ i, k = i + 1 := ⟨k - 1, by omega⟩
            have ei : (((i + 1 : Nat) : Int) - 1) = (i : Int) := by omega
            rw [ei]
            clear ei
            obtain ⟨ov, hov⟩ : ∃ ov, ov = ovK (mkI ns) (m + 1) (i + 1) := ⟨_, rfl⟩
            rw [← hov]
            have hst := ovK_step (mkI ns) (show i < m + 1 by omega)
            rw [← hov] at hst
            have hov0 : 0 ≤ ov := by rw [hov]; exact ovK_nonneg (fun j => (mkI_bd ns j).1) _ _
            have hov1 : ov ≤ 200 := by rw [hov]; have := ovK_le (M := 2) (fun j => (mkI_bd ns j).2) (m + 1) (i + 1); omega
            obtain ⟨hth0, hth1⟩ := HTH0.out i (by omega)
            obtain ⟨y0, y1⟩ := hX.out.at_ (j := i) (by omega)
            have hset := thkK_set th (mkI ns) (show i < th.length by rw [HTL.out]; omega)
            rw [HTL.out] at hset
            rw [thkK_get th (mkI ns) (show i < th.length by rw [HTL.out]; omega), if_neg (by omega)] at y0
            obtain ⟨ov', hov'⟩ : ∃ ov', ov' = ovK (mkI ns) (m + 1) i := ⟨_, rfl⟩
            rw [← hov'] at hst hset
            generalize th.getD i 0 = tv at *
            obtain ⟨mn, hmn⟩ : ∃ mn, mn = min 60 (tv + ov') := ⟨_, rfl⟩
            rw [← hmn] at hset
            have hm1' : (if tv + ov' < 60 then tv + ov' else 60) = mn := by omega
            have HSET := Lib.hid hset; have HOV := Lib.hid hov'
            have hov2 : 0 ≤ ov' ∧ ov' ≤ 400 := by have := mkI_bd ns i; omega
            obtain ⟨hov3, hov4⟩ := hov2
            have hka : (0 : Int) ≤ (i : Int) := by omega
            have hkb : (i : Int) < (m : Int) + 1 := by omega
            have htk : (i : Int).toNat = i := by omega
            clear hset hov hmn hov'
            by_cases h8 : i < n8
            · have hd1 : decide (i < n8) = true := by simpa using h8
              obtain ⟨x, hx⟩ := get_some (show i < ns.length by rw [← HN8.out]; exact h8)
              obtain ⟨b8, off8, rfl, hc8⟩ := (H8.out.ext (HE.out.trans hX.out.ext)).at hx
              have hxb := HB8.out x (List.mem_of_getElem? hx)
              have hmk : mkI ns i = ((x % 3 : Nat) : Int) := by unfold mkI; rw [hx]; rfl
              obtain ⟨y, hy⟩ : ∃ y : Nat, y = x % 3 := ⟨_, rfl⟩
              have hx3 : (x : Int) % 3 = (y : Int) := by rw [hy]; omega
              have hy3 : y ≤ 2 := by rw [hy]; omega
              have hsum : ov + (y : Int) = ov' := by rw [hst, hmk, hy]; omega
              have hk8 : (i : Int) < (n8 : Int) := by omega
              clear hx hmk hy hst
              go_wp2_with fail
              go_still_tail 11, (by kernel_rfl)
              change wpList _ _ _ _ _ wr.drew
              have hX2 := Lib.hid (hX.out.turn (Ext.drew (Ext.refl _)))
              clear hX c0 c1 y0 y1
              generalize wr.drew = w14 at *
              obtain ⟨c0, c1⟩ := hX2.out.cells
              obtain ⟨y0, y1⟩ := hX2.out.at_ (j := i) (by omega)
              have HX3 := Lib.hid (hX2.out.put i mn)
              clear hX2
              go_wp2
              go_roundw
              case rel => exact ⟨i, by omega, by go_num, by rw [HOV.out], by rw [← HSET.out]; exact HX3⟩
              case measure => simp [intV]
            · have hd1 : decide (i < n8) = false := by simpa using h8
              have hov5 : ov' = ov := by
                have : mkI ns i = 0 := by unfold mkI; rw [List.getElem?_eq_none (by rw [← HN8.out]; omega)]; rfl
                omega
              subst hov5
              clear hst
              go_wp2_with fail
              go_still_tail 11, (by kernel_rfl)
              change wpList _ _ _ _ _ wr.drew
              have hX2 := Lib.hid (hX.out.turn (Ext.drew (Ext.refl _)))
              clear hX c0 c1 y0 y1
              generalize wr.drew = w14 at *
              obtain ⟨c0, c1⟩ := hX2.out.cells
              obtain ⟨y0, y1⟩ := hX2.out.at_ (j := i) (by omega)
              have HX3 := Lib.hid (hX2.out.put i mn)
              clear hX2
              go_wp2
              go_roundw
              case rel => exact ⟨i, by omega, by go_num, by rw [HOV.out], by rw [← HSET.out]; exact HX3⟩
              case measure => simp [intV]
          · obtain rfl : k = 0 := by omega
            rw [show (((0 : Nat) : Int) - 1) = -1 from rfl]
            obtain ⟨wA, rfl⟩ : ∃ x, x = wr := ⟨wr, rfl⟩
            have HTX := hX
            have HE := Lib.hid (HE.out.trans hX.out.ext)
            have HP := Lib.hid (HP.out.ext hX.out.ext)
            clear hX c0 c1 hk0 hk
            obtain ⟨⟨g1, g2⟩, r0, r1, r2, r3, r4, r5, r6⟩ := HP.out
            have HB0 := Lib.hid (BadX.made (Ext.refl wA) (.slice a (m + 1) cap))
            obtain ⟨⟨g3, g4⟩, -⟩ := HP.out.ext HB0.out.ext
            go_wp2_with fail
            refine (C43.out _).mono ?_
            rintro e w2 ⟨rfl, hb⟩
            have HB0 := Lib.hid (HB0.out.turn hb)
            clear hb g1 g2 g3 g4 r0 r1 r2 r3 r4 r5 r6
            obtain ⟨⟨g1, g2⟩, -⟩ := HP.out.ext HB0.out.ext
            go_wp2_with fail
            rw [hpp]
            clear hpp
            go_loopw [14] (fun s wr => ∃ (i : Nat), i ≤ m ∧ s = .int .i64 (i : Int) ∧ Hid (∃ bv, BadX wA wr wA.heap.size (.slice a (m + 1) cap) bv (badL i fun i => hitB (decide (i = at_)) bd i))) (fun s wr => m - (intV s).toNat)
            case atStart => exact ⟨0, Nat.zero_le _, rfl, Lib.hid ⟨_, HB0.out⟩⟩
            case round =>
              clear g1 g2 HB0
              obtain ⟨i, hi, rfl, hBE⟩ := hrel
              obtain ⟨bv, hB⟩ := hBE.out
              replace hB := Lib.hid hB
              clear hBE
              obtain ⟨ab, capb, rfl, hcapb⟩ := hB.out.own.shape
              have hlen := badL_len i fun i => hitB (decide (i = at_)) bd i
              have hsucc := badL_succ i fun i => hitB (decide (i = at_)) bd i
              obtain ⟨bi, hbi⟩ : ∃ bi, bi = badL i fun i => hitB (decide (i = at_)) bd i := ⟨_, rfl⟩
              rw [← hbi] at hB hlen hcapb hsucc
              obtain ⟨cl, hcl⟩ : ∃ x, x = bi.length := ⟨_, rfl⟩
              rw [← hcl] at hB hlen hcapb
              have HCL := Lib.hid hcl; have HBI := Lib.hid hbi; have HS := Lib.hid hsucc
              clear hcl hbi hsucc
              obtain ⟨⟨g1, g2⟩, -⟩ := HP.out.ext hB.out.ext
              go_wp2_with fail
              refine (C43.out _).mono ?_
              rintro e w3 ⟨rfl, hb⟩
              have HB3 := Lib.hid (hB.out.turn hb)
              clear hb g1 g2
              have HX3 := Lib.hid HB3.out.ext
              obtain ⟨⟨g1, g2⟩, r0, r1, r2, r3, r4, r5, r6⟩ := HP.out.ext HX3.out
              by_cases hlt : i < m
              · have hd1 : decide (i < m) = true := by simpa using hlt
                obtain ⟨s0, hs0⟩ : ∃ s0, s0 = decide (i = at_) := ⟨_, rfl⟩
                have HS0 := Lib.hid hs0
                have hs1 : ((i : Int) == (at_ : Int)) = s0 := by rw [hs0, Bool.eq_iff_iff]; simp; omega
                have hs2 : (i == at_) = s0 := by rw [hs0, Bool.eq_iff_iff]; simp
                have hs3 : decide (i = at_) = s0 := hs0.symm
                clear hs0
                go_wp2_with fail
                go_loopw [15, 16] (fun s t wr => ∃ k : Nat, k ≤ n' ∧ t = .int .i64 (k : Int) ∧ s = .bool (hitB s0 (bd.take k) i) ∧ Hid (Ext w3 wr)) (fun s t wr => n' - (intV t).toNat)
                case atStart => exact ⟨0, Nat.zero_le _, rfl, by rw [List.take_zero, hitB_nil], Lib.hid (Ext.refl _)⟩
                case round =>
                  obtain ⟨k, hk, rfl, rfl, hY⟩ := hrel
                  obtain ⟨⟨g1, g2⟩, -⟩ := HP.out.ext (HX3.out.trans hY.out)
                  by_cases hlk : k < n'
                  · obtain ⟨b2, off, x, rfl, hx, hcx⟩ := (HD.out.ext (HE.out.trans (HX3.out.trans hY.out))).at (show k < bd.length by rw [← HNB.out]; exact hlk)
                    have HT := Lib.hid (show hitB s0 (bd.take (k + 1)) i = (hitB s0 (bd.take k) i || x == (i : Int)) by rw [take_snoc hx, hitB_snoc])
                    have hka : (0 : Int) ≤ (k : Int) := by omega
                    have hkb : (k : Int) < (n' : Int) := by omega
                    have htk : (k : Int).toNat = k := by omega
                    clear hx
                    cases hh : hitB s0 (bd.take k) i
                    · have HN := Lib.hid (show hitB s0 (bd.take (k + 1)) i = (x == (i : Int)) by rw [HT.out, hh, Bool.false_or])
                      clear hh HT
                      go_wp2_with fail
                      go_roundw
                      case rel => exact ⟨k + 1, by omega, by go_num, by rw [HN.out], hY⟩
                      case measure => simp [intV]; omega
                    · have HN := Lib.hid (show hitB s0 (bd.take (k + 1)) i = true by rw [HT.out, hh, Bool.true_or])
                      clear hh HT
                      go_wp2_with fail
                      go_roundw
                      case rel => exact ⟨k + 1, by omega, by go_num, by rw [HN.out], hY⟩
                      case measure => simp [intV]; omega
                  · have hkb : ¬ (k : Int) < (n' : Int) := by omega
                    have hk2 : k = bd.length := by rw [← HNB.out]; omega
                    have HTT := Lib.hid (show bd.take k = bd by rw [hk2]; exact List.take_length)
                    clear hk2
                    rw [HTT.out]
                    have HX4 := Lib.hid (HX3.out.trans hY.out)
                    have HB4 := Lib.hid (HB3.out.turn hY.out)
                    cases hh : hitB s0 bd i
                    · have HN := Lib.hid (show badL (i + 1) (fun i => hitB (decide (i = at_)) bd i) = bi by rw [HS.out, ← HS0.out, hh]; simp)
                      clear hh
                      go_wp2_with fail
                      go_roundw
                      case rel => exact ⟨i + 1, by omega, by go_num, Lib.hid ⟨_, by rw [HN.out]; exact HB4.out⟩⟩
                      case measure => simp [intV]; omega
                    · have HN := Lib.hid (show badL (i + 1) (fun i => hitB (decide (i = at_)) bd i) = bi ++ [(i : Int)] by rw [HS.out, ← HS0.out, hh]; simp)
                      obtain ⟨x0, x1, x2⟩ := HB4.out.cells
                      clear hh
                      go_wp2_with (at_builtin; first
                        | (refine appendI Try.underlying23 Try.info3 wr (wA.heap.size + 1) bi (i : Int) _ _ _ rfl rfl rfl HB4.out.own HB4.out.lt (by rw [← HCL.out]; omega) rfl ?_
                           intro v6 w6 hO6 hB6
                           obtain ⟨a6, cap6, rfl, -⟩ := hO6.shape
                           obtain ⟨l6, hl6⟩ : ∃ x, x = (bi ++ [(i : Int)]).length := ⟨_, rfl⟩
                           rw [← hl6] at hO6 ⊢
                           clear hl6
                           obtain ⟨k1, k2⟩ := HB4.out.mid hB6
                           have HP6 := Lib.hid (HB4.out.put hB6 hO6)
                           clear hO6 hB6 x0 x1 x2)
                        | fail)
                      go_roundw
                      case rel => exact ⟨i + 1, by omega, by go_num, Lib.hid ⟨_, by rw [HN.out]; exact HP6.out⟩⟩
                      case measure => simp [intV]; omega
              · have hd1 : decide (i < m) = false := by simpa using hlt
                have hie : i = m := by omega
                have HBM := Lib.hid (show bi = bl by rw [HBI.out, HBL.out, hie])
                clear hie
                have hB3 := HB3.out
                rw [HBM.out] at hB3
                have HB := Lib.hid hB3
                have HE := Lib.hid (HE.out.trans HX3.out)
                have HP := Lib.hid (HP.out.ext HX3.out)
                have HBL6 := Lib.hid (show bl.length ≤ 5000 from HBL5.out)
                clear hB3 HB3 hB HX3
                have HTX := Lib.hid (HTX.out.turn HB.out.ext)
                obtain ⟨x0, x1, -⟩ := HB.out.cells
                obtain ⟨c0, c1⟩ := HTX.out.cells
                have HRK := Lib.hid (fun (W : World) (h : Reads W (.slice (some ⟨g, 0, none⟩) (m + 1) capx) (thkK th (mkI ns) 0)) => show Reads W (.slice (some ⟨g, 0, none⟩) (m + 1) capx) tk by rw [HTK.out]; exact h)
                have HKL := Lib.hid (show (thkK th (mkI ns) 0).length ≤ 5000 by rw [thkK_len, HTL.out]; omega)
                go_wp2_with fail
                refine (C26.out _ HE.out).mono ?_
                rintro e w20 ⟨rfl, hb⟩
                obtain ⟨⟨g1, g2⟩, r0, r1, r2, r3, r4, r5, r6⟩ := HP.out.ext hb
                have HE := Lib.hid (HE.out.trans hb)
                have HP := Lib.hid (HP.out.ext hb)
                have HB := Lib.hid (HB.out.turn hb)
                have HTX := Lib.hid (HTX.out.turn hb)
                obtain ⟨x0, x1, -⟩ := HB.out.cells
                obtain ⟨c0, c1⟩ := HTX.out.cells
                clear hb
                go_wp2_with fail
                refine (C26k.out _ _ HE.out (HRK.out _ (HTX.out.own.reads HKL.out))).mono ?_
                rintro e w21 ⟨rfl, hb⟩
                obtain ⟨⟨g1, g2⟩, r0, r1, r2, r3, r4, r5, r6⟩ := HP.out.ext hb
                have HE := Lib.hid (HE.out.trans hb)
                have HP := Lib.hid (HP.out.ext hb)
                have HB := Lib.hid (HB.out.turn hb)
                have HTX := Lib.hid (HTX.out.turn hb)
                obtain ⟨x0, x1, -⟩ := HB.out.cells
                obtain ⟨c0, c1⟩ := HTX.out.cells
                clear hb
                go_wp2_with fail
                refine (C26x.out _ _ HE.out (HB.out.own.reads HBL6.out)).mono ?_
                rintro e w22 ⟨rfl, hb⟩
                obtain ⟨⟨g1, g2⟩, r0, r1, r2, r3, r4, r5, r6⟩ := HP.out.ext hb
                have HE := Lib.hid (HE.out.trans hb)
                have HP := Lib.hid (HP.out.ext hb)
                have HB := Lib.hid (HB.out.turn hb)
                have HTX := Lib.hid (HTX.out.turn hb)
                obtain ⟨x0, x1, -⟩ := HB.out.cells
                obtain ⟨c0, c1⟩ := HTX.out.cells
                clear hb
                clear x0 x1 c0 c1
                by_cases h61 : m = 60
                · have h61a : ((m : Int) + 1 == 61) = true := by simp; omega
                  have h61b : (m + 1 == 61) = true := by simp; omega
                  have h61c : ((m : Int) == 60) = true := by simp; omega
                  have h61d : (m == 60) = true := by simp; omega
                  clear h61
                  go_wp2_with fail
                  refine (works17 _).mono ?_
                  rintro e w9 ⟨rfl, hb⟩
                  have HE := Lib.hid (HE.out.trans hb); clear hb
                  go_wp2
                  go_ret
                  exact ⟨rfl, HE.out⟩
                · have h61a : ((m : Int) + 1 == 61) = false := by simp; omega
                  have h61b : (m + 1 == 61) = false := by simp; omega
                  have h61c : ((m : Int) == 60) = false := by simp; omega
                  have h61d : (m == 60) = false := by simp; omega
                  have HZZ := Lib.hid (HZ.out (by omega))
                  obtain ⟨wB, rfl⟩ : ∃ x, x = w22 := ⟨w22, rfl⟩
                  clear h61 HTX HB
                  clear r0 r1 r2 r3 r4 r5 r6
                  have HEB := HE
                  have HPB := HP
                  obtain ⟨b0, off0, x00, rfl, hx0, hc0⟩ := (HT0.out.ext HEB.out).at (show 0 < th.length by rw [HTL.out]; omega)
                  rw [Nat.add_zero] at hc0
                  have hzz : [x00] ++ th = tz := by
                    rw [HTZ.out]
                    have : th.getD 0 0 = x00 := by rw [List.getD_eq_getElem?_getD, hx0]; rfl
                    rw [this]; rfl
                  have hzl : tz.length = m + 2 := by rw [HTZ.out, List.length_cons, HTL.out]
                  have HZE := Lib.hid hzz; have HZL := Lib.hid hzl
                  clear hzz hzl hx0
                  go_upto_region 30 with fail
                  go_cut [23] (fun s23 wx => ∃ Z gz capz : Nat, s23 = .pointer (some ⟨Z, 0, none⟩) ∧ Hid (ThkX wB wx Z gz (m + 2) capz (.slice none 0 0) tz))
                  case first =>
                    have G1 := Lib.hid g1
                    have G2 := Lib.hid hc0
                    have k1 : OwnI 2 wB.heap.size ((wB.alloc (.cells #[.int .i64 x00] 2)).drew) (.slice (some ⟨wB.heap.size, 0, none⟩) 1 1) [x00] := World.ownsRow_lit wB (base := wB.heap.size) (e := 2) (size := 1) #[.int .i64 x00] 1 (Nat.le_refl _) (by simp [maxLen]) rfl
                    have k2 : OwnI 2 wB.heap.size (((wB.alloc (.cells #[.slice none 0 0, .slice none 0 0] 25)).alloc (.cells #[.int .i64 x00] 2)).drew) (.slice (some ⟨wB.heap.size + 1, 0, none⟩) 1 1) [x00] := by
                      have := World.ownsRow_lit (wB.alloc (.cells #[.slice none 0 0, .slice none 0 0] 25)) (base := wB.heap.size) (e := 2) (size := 1) #[.int .i64 x00] 1 (by simp) (by simp [maxLen]) rfl
                      rwa [World.size_alloc] at this
                    have k3 : OwnI 2 wB.heap.size (((wB.alloc (.cells #[.int .i64 x00] 2)).alloc (.cells #[.slice none 0 0, .slice none 0 0] 25)).drew) (.slice (some ⟨wB.heap.size, 0, none⟩) 1 1) [x00] := k1.ext (((Ext.refl _).alloc (.cells #[.slice none 0 0, .slice none 0 0] 25)))
                    have e1 := ((Ext.refl wB).alloc (.cells #[.int .i64 x00] 2)).drew
                    have e2 := (((Ext.refl wB).alloc (.cells #[.slice none 0 0, .slice none 0 0] 25)).alloc (.cells #[.int .i64 x00] 2)).drew
                    have e3 := (((Ext.refl wB).alloc (.cells #[.int .i64 x00] 2)).alloc (.cells #[.slice none 0 0, .slice none 0 0] 25)).drew
                    have K1 := Lib.hid k1; have K2 := Lib.hid k2; have K3 := Lib.hid k3; have E1 := Lib.hid e1; have E2 := Lib.hid e2; have E3 := Lib.hid e3
                    have HTB := Lib.hid (HT0.out.ext HEB.out)
                    have R1 := Lib.hid (HTB.out.ext e1); have R2 := Lib.hid (HTB.out.ext e2); have R3 := Lib.hid (HTB.out.ext e3)
                    clear k1 k2 k3 e1 e2 e3
                    have B2 := Lib.hid (show (((wB.alloc (.cells #[.slice none 0 0, .slice none 0 0] 25)).alloc (.cells #[.int .i64 x00] 2)).drew).heap[wB.heap.size]? = some (.cells #[.slice none 0 0, .slice none 0 0] 25 (0, 0)) from block_ext (((Ext.refl (wB.alloc (.cells #[.slice none 0 0, .slice none 0 0] 25))).alloc (.cells #[.int .i64 x00] 2)).drew) (heap_alloc_new wB _))
                    have B3 := Lib.hid (show (((wB.alloc (.cells #[.int .i64 x00] 2)).alloc (.cells #[.slice none 0 0, .slice none 0 0] 25)).drew).heap[wB.heap.size + 1]? = some (.cells #[.slice none 0 0, .slice none 0 0] 25 (0, 0)) from by
                      have := heap_alloc_new (wB.alloc (.cells #[.int .i64 x00] 2)) (.cells #[.slice none 0 0, .slice none 0 0] 25)
                      rw [World.size_alloc] at this
                      exact this)
                    have L1 := Lib.hid (fun (v6 : Value) (w6 : World) (hO6 : OwnI 2 wB.heap.size w6 v6 ([x00] ++ th)) hG6 hV6 => wayZ (v6 := v6) (w6 := w6) (g0 := wB.heap.size) (zs := tz) E1.out (Nat.le_refl _) (by rw [← HZE.out]; exact hO6) hG6 hV6 HZL.out (Nat.succ_pos _))
                    have L2 := Lib.hid (fun (v6 : Value) (w6 : World) (hO6 : OwnI 2 wB.heap.size w6 v6 ([x00] ++ th)) hG6 hV6 => And.intro (wayZ (v6 := v6) (w6 := w6) (g0 := wB.heap.size + 1) (zs := tz) E2.out (Nat.le_succ _) (by rw [← HZE.out]; exact hO6) hG6 hV6 HZL.out (Nat.succ_pos _)) (way_blk (g := wB.heap.size + 1) B2.out hG6 (by omega)))
                    have L3 := Lib.hid (fun (v6 : Value) (w6 : World) (hO6 : OwnI 2 wB.heap.size w6 v6 ([x00] ++ th)) hG6 hV6 => And.intro (wayZ (v6 := v6) (w6 := w6) (g0 := wB.heap.size) (zs := tz) E3.out (Nat.le_refl _) (by rw [← HZE.out]; exact hO6) hG6 hV6 HZL.out (Nat.succ_pos _)) (way_blk (g := wB.heap.size) B3.out hG6 (by omega)))
                    have S1 := Lib.hid (show wB.heap.size ≤ ((wB.alloc (.cells #[.int .i64 x00] 2)).drew).heap.size from E1.out.size)
                    have S2 := Lib.hid (show wB.heap.size ≤ (((wB.alloc (.cells #[.slice none 0 0, .slice none 0 0] 25)).alloc (.cells #[.int .i64 x00] 2)).drew).heap.size from E2.out.size)
                    have S3 := Lib.hid (show wB.heap.size ≤ (((wB.alloc (.cells #[.int .i64 x00] 2)).alloc (.cells #[.slice none 0 0, .slice none 0 0] 25)).drew).heap.size from E3.out.size)
                    have N0 := Lib.hid (show ([x00] : List Int).length ≤ 5000 by simp)
                    have HKP := Lib.hid (fun (W : World) (h : Ext wB W) => show W.cell? ⟨w.heap.size, 0, none⟩ = some (.slice (some ⟨b0, off0, none⟩) (m + 1) cap) ∧ W.cell? ⟨b0, off0, none⟩ = some (.int .i64 x00) from ⟨cell_ext h G1.out, cell_ext h G2.out⟩)
                    go_region_held3 (fun W => W.cell? ⟨w.heap.size, 0, none⟩ = some (.slice (some ⟨b0, off0, none⟩) (m + 1) cap) ∧ W.cell? ⟨b0, off0, none⟩ = some (.int .i64 x00))
                      (first | exact HKP.out _ (Ext.drew (Ext.refl wB)) | exact HKP.out _ (Ext.drew (Ext.alloc (Ext.refl wB) _)) | exact HKP.out _ (Ext.drew (Ext.alloc (Ext.alloc (Ext.refl wB) _) _)) | exact HKP.out _ (by assumption) | exact HKP.out _ (Ext.alloc (by assumption) _) | exact HKP.out _ (grown_new (grown_new (by assumption) (grown_set _ _ _ _) (by assumption)) (grown_set _ _ _ _) (by assumption)) | fail)
                      (first
                      | (refine step_appendSU (by rfl) _ _ (by rfl) _ (by rfl) _ wB.heap.size [x00] th K1.out S1.out N0.out _ (by rfl) R1.out ?_; intro v6 w6 hO6 hG6 hV6; obtain ⟨g6, cap6, rfl, hg6, hX6, hO, hz, hlt⟩ := L1.out v6 w6 hO6 hG6 hV6; have HH := Lib.hid (And.intro hg6 (And.intro hO (And.intro hz hlt))); clear hO6 hG6 hV6 hg6 hO hz hlt)
                      | (refine step_appendSU (by rfl) _ _ (by rfl) _ (by rfl) _ wB.heap.size [x00] th K2.out S2.out N0.out _ (by rfl) R2.out ?_; intro v6 w6 hO6 hG6 hV6; obtain ⟨⟨g6, cap6, rfl, hg6, hX6, hO, hz, hlt⟩, hB⟩ := L2.out v6 w6 hO6 hG6 hV6; have HH := Lib.hid (And.intro hg6 (And.intro hO (And.intro hz hlt))); have HB6 := Lib.hid hB; have hXX : wB.heap.size ≤ wB.heap.size := Nat.le_refl _; clear hO6 hG6 hV6 hg6 hO hz hB hlt)
                      | (refine step_appendSU (by rfl) _ _ (by rfl) _ (by rfl) _ wB.heap.size [x00] th K3.out S3.out N0.out _ (by rfl) R3.out ?_; intro v6 w6 hO6 hG6 hV6; obtain ⟨⟨g6, cap6, rfl, hg6, hX6, hO, hz, hlt⟩, hB⟩ := L3.out v6 w6 hO6 hG6 hV6; have HH := Lib.hid (And.intro hg6 (And.intro hO (And.intro hz hlt))); have HB6 := Lib.hid hB; have hXX : wB.heap.size ≤ wB.heap.size + 1 := Nat.le_succ _; clear hO6 hG6 hV6 hg6 hO hz hB hlt)
                      | (go_at_call 44; refine (stem44 _ _ _ _ _ rfl).mono ?_; rintro e w7 ⟨rfl, hb7⟩; have hB7 := block_ext hb7 HB6.out; have hX7 := Ext.trans hX6 hb7; have HB7 := Lib.hid hB7; have Hb7 := Lib.hid hb7; obtain ⟨x0, x1, y0, y1, z⟩ := way_cells hB7; clear hB7 hb7)
                      | (go_at_call 44; refine (stem44 _ _ _ _ _ rfl).mono ?_; rintro e w7 ⟨rfl, hb7⟩; have hB7 := block_ext hb7 (heap_alloc_new w6 (.cells #[.slice none 0 0, .slice none 0 0] 25)); have hX7 := Ext.trans (hX6.alloc (.cells #[.slice none 0 0, .slice none 0 0] 25)) hb7; have hXX := hX6.size; have HB7 := Lib.hid hB7; have Hb7 := Lib.hid hb7; obtain ⟨x0, x1, y0, y1, z⟩ := way_cells hB7; clear hB7 hb7)
                      | (go_at_call 44; refine (stem44 _ _ _ _ _ rfl).mono ?_; rintro e w7 ⟨rfl, hb7⟩; have hX7 := Ext.trans hX6 hb7; have Hb7 := Lib.hid hb7; clear hb7)
                      | fail)
                    all_goals go_wp2_with fail
                    all_goals go_meet
                    all_goals obtain ⟨h1, h2, h3, h4⟩ := HH.out
                    all_goals first
                      | exact ⟨_, _, _, rfl, Lib.hid (ThkX.ofA hX7 (h2.ext Hb7.out) HZL.out)⟩
                      | exact ⟨_, _, _, rfl, Lib.hid (ThkX.ofB hX7 (h2.ext Hb7.out) HZL.out HB7.out hXX (by rcases h1 with h1 | h1 <;> (try simp [World.drew] at h1) <;> omega))⟩
                      | exact ⟨_, _, _, rfl, Lib.hid (ThkX.ofB hX7 ((h2.ext ((Ext.refl _).alloc _)).ext Hb7.out) HZL.out HB7.out hXX (by omega))⟩
                  case rest =>
                    obtain ⟨Z, gz, capz, rfl, HXZ⟩ := hcut
                    have HRZ := Lib.hid (HXZ.out.own.reads (by rw [HZL.out]; omega))
                    have HNZ := Lib.hid HXZ.out.ne
                    have HB0 := Lib.hid (ZX.made HXZ.out)
                    have cz := C26z.out
                    rw [HZZ.out.1] at cz
                    have CZ := Lib.hid cz
                    have hbz3 : decide (BA ≤ BZ) = true := by have := HZZ.out.2; simpa using this
                    have hbz4 : decide (BZ < BA) = false := by have := HZZ.out.2; simp; omega
                    clear cz hc0 g1 g2
                    obtain ⟨⟨g1, g2⟩, -⟩ := HPB.out.ext HB0.out.ext
                    go_wp2_with fail
                    go_loopw [24] (fun s wr => ∃ k : Nat, k ≤ n' ∧ s = .int .i64 (k : Int) ∧ Hid (∃ bv, ZX wB wc wr Z (.slice (some ⟨gz, 0, none⟩) (m + 2) capz) bv ((bd.take k).map fun b => b + 1))) (fun s wr => n' - (intV s).toNat)
                    case atStart => exact ⟨0, Nat.zero_le _, rfl, Lib.hid ⟨_, HB0.out⟩⟩
                    case round =>
                      clear HB0 g1 g2
                      obtain ⟨k, hk, rfl, hBE⟩ := hrel
                      obtain ⟨bv, hB⟩ := hBE.out
                      obtain ⟨ab, capb, rfl, hcapb⟩ := hB.own.shape
                      replace hB := Lib.hid hB
                      clear hBE
                      have hplen : ((bd.take k).map fun b => b + 1).length ≤ n' := by rw [List.length_map, List.length_take]; omega
                      obtain ⟨bi, hbi⟩ : ∃ bi, bi = (bd.take k).map fun b => b + 1 := ⟨_, rfl⟩
                      rw [← hbi] at hB hplen hcapb
                      obtain ⟨cl, hcl⟩ : ∃ x, x = bi.length := ⟨_, rfl⟩
                      rw [← hcl] at hB hplen hcapb
                      have HCL := Lib.hid hcl; have HBI := Lib.hid hbi
                      clear hcl hbi
                      obtain ⟨⟨g1, g2⟩, r0, r1, r2, r3, r4, r5, r6⟩ := HPB.out.ext hB.out.ext
                      by_cases hlk : k < n'
                      · clear r0 r1 r2 r3 r4 r5 r6
                        obtain ⟨b2, off2, x, rfl, hx, hcx⟩ := (HD.out.ext (HEB.out.trans hB.out.ext)).at (show k < bd.length by rw [← HNB.out]; exact hlk)
                        have hxb := HBB.out x (List.mem_of_getElem? hx)
                        have HN := Lib.hid (show ((bd.take (k + 1)).map fun b => b + 1) = bi ++ [x + 1] by rw [take_snoc hx, List.map_append, HBI.out]; rfl)
                        have hka : (0 : Int) ≤ (k : Int) := by omega
                        have hkb : (k : Int) < (n' : Int) := by omega
                        have htk : (k : Int).toNat = k := by omega
                        have hwx : IntKind.i64.wrap (x + 1) = x + 1 := wrapi64 _ (by omega) (by omega)
                        clear hx
                        obtain ⟨o0, o1, o2⟩ := hB.out.cells
                        obtain ⟨c0, c1, -⟩ := (hB.out.turn ((Ext.refl wr).alloc (.cells #[.int .i64 (x + 1)] 3))).cells
                        have hBA := hB.out.turn (((Ext.refl wr).alloc (.cells #[.int .i64 (x + 1)] 3)).drew)
                        have HBA := Lib.hid hBA
                        have HCL5 := Lib.hid (show bi.length ≤ 5000 by rw [← HCL.out]; have := HNB.out; have := HD.out.1; omega)
                        clear c0 o0 hBA
                        go_wp2_with fail
                        go_region_law ((refine step_appendI (by rfl) _ _ (by rfl) _ (by rfl) _ wc.heap.size bi (x + 1) HBA.out.own HBA.out.size HCL5.out wr.heap.size (by rfl) (World.cell?_alloc_at _ _ _ _ rfl) ?_; intro v6 w6 hO6 hB6; obtain ⟨k1, k2⟩ := HBA.out.mid hB6; obtain ⟨a6, cap6, rfl, -⟩ := hO6.shape; obtain ⟨l6, hl6⟩ : ∃ x', x' = (bi ++ [x + 1]).length := ⟨_, rfl⟩; rw [← hl6] at hO6 ⊢; have HP6 := Lib.hid (HBA.out.put hB6 hO6); clear hl6 hO6 hB6))
                        all_goals
                          go_wp2_with fail
                          go_roundw
                          case rel => exact ⟨k + 1, by omega, by go_num, Lib.hid ⟨_, by rw [HN.out]; exact HP6.out⟩⟩
                          case measure => simp [intV]; omega
                      · have hkb : ¬ (k : Int) < (n' : Int) := by omega
                        have hkc : decide ((k : Int) < (n' : Int)) = false := by simp; omega
                        have HTT := Lib.hid (show bi = bz by rw [HBI.out, HBZ.out, List.take_of_length_le (by rw [← HNB.out]; omega)])
                        have hB3 := hB.out
                        rw [HTT.out] at hB3
                        have HB := Lib.hid hB3
                        have HEB := Lib.hid (HEB.out.trans hB.out.ext)
                        have HPB := Lib.hid (HPB.out.ext hB.out.ext)
                        have HBZ5 := Lib.hid (show bz.length ≤ 5000 by rw [HBZ.out, List.length_map]; exact HD.out.1)
                        clear hB3 hB hlk
                        obtain ⟨x0, x1, -⟩ := HB.out.cells
                        go_wp2_with fail
                        refine (CZ.out _ _ _ (HB.out.reads HRZ.out HNZ.out (by rw [HZL.out]; omega)) (HB.out.own.reads HBZ5.out)).mono ?_
                        rintro e w31 ⟨rfl, hb⟩
                        have HEB := Lib.hid (HEB.out.trans hb)
                        clear hb x0 x1 g1 g2 r0 r1 r2 r3 r4 r5 r6
                        go_wp2_with fail
                        refine (works17 _).mono ?_
                        rintro e w9 ⟨rfl, hb⟩
                        have HEB := Lib.hid (HEB.out.trans hb); clear hb
                        go_wp2
                        go_ret
                        exact ⟨rfl, HEB.out⟩
end Go.Proofs.Ytcgheakadfjofaa
