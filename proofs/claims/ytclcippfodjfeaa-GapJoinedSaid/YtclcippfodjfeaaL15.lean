/- GapJoined, by its contract. -/
import Derived.Test.YtclcippfodjfeaaL2
import Derived.Test.YtclcippfodjfeaaL12
import Derived.Deep.LoopGhost
namespace Go.Proofs.Ytclcippfodjfeaa
open Go.RowKit
set_option linter.unusedVariables false
set_option linter.unusedSimpArgs false
/-- Whether a log is wanted no later than each of the first k logs of the second row. -/
def leTo (x : Int) (b : List Int) (k : Nat) : Bool := (List.range k).all fun j => decide (x ≤ rAt b j)
theorem leTo_succ (x : Int) (b : List Int) (k : Nat) : leTo x b (k + 1) = (leTo x b k && decide (x ≤ rAt b k)) := by
  unfold leTo; rw [List.range_succ, List.all_append]; simp
def aftTo (a b : List Int) (k : Nat) : Bool := (List.range k).all fun i => leTo (rAt a i) b b.length
theorem aftTo_succ (a b : List Int) (k : Nat) : aftTo a b (k + 1) = (aftTo a b k && leTo (rAt a k) b b.length) := by
  unfold aftTo; rw [List.range_succ, List.all_append]; simp
theorem joined_facts (row : List Int) (k : Nat) (hk : k ≤ row.length) : (tab row).length ≤ (tab (row.take k)).length + (tab (row.drop k)).length ∧ max (tab (row.take k)).length (tab (row.drop k)).length ≤ (tab row).length ∧
    (aftTo (row.take k) (row.drop k) (row.take k).length = true → (tab row).length = max (tab (row.take k)).length (tab (row.drop k)).length) := by
  obtain ⟨h1, h2, h3, h4⟩ := few_joined (row.take k) (row.drop k)
  rw [List.take_append_drop] at h1 h2 h3 h4
  rw [few_tab, few_tab, few_tab] at h1 h4
  rw [few_tab, few_tab] at h2 h3
  refine ⟨h1, by omega, fun h => h4 fun i j hi hj => ?_⟩
  unfold aftTo at h
  rw [List.all_eq_true] at h
  have h5 := h i (List.mem_range.2 hi)
  unfold leTo at h5
  rw [List.all_eq_true] at h5
  simpa using h5 j (List.mem_range.2 hj)
theorem Reads.drop {w : World} {a : Option Addr} {n cap : Nat} {xs : List Int} (h : Reads w (.slice a n cap) xs) {k : Nat} (hk : k ≤ xs.length) {a' : Option Addr} (ha : ∀ b off, a = some ⟨b, off, none⟩ → a' = some ⟨b, off + k, none⟩) : Reads w (.slice a' (n - k) (cap - k)) (xs.drop k) := by
  obtain ⟨hl, a1, cap', e, hcap, h⟩ := h
  cases e
  refine ⟨by simp; omega, a', cap - k, by simp, by simp; omega, ?_⟩
  rcases h with rfl | ⟨b, off, rfl, hc⟩
  · exact .inl (by simp)
  · refine .inr ⟨b, off + k, ha b off rfl, fun i hi => ?_⟩
    have hi2 : k + i < xs.length := by simp at hi; omega
    rw [Nat.add_assoc, hc (k + i) hi2, List.getElem?_drop]
attribute [local go_sem] Oper.semAt_some
set_option maxRecDepth 100000 in
set_option maxHeartbeats 1500000 in
theorem joined15 (a : Option Addr) (cap : Nat) (row : List Int) (y : Nat) (w : World) (hlen : row.length ≤ cap ∧ cap ≤ 9223372036854775807) (hr : row.length ≤ 5000 → Reads w (.slice a row.length cap) row) (hy : y ≤ 255) :
    Calls Try.prog 15 #[.slice a row.length cap, .int .u8 (y : Int)] w fun e w' => e = .returned (.bool true) ∧ Ext w w' := by
  obtain ⟨n, hn⟩ : ∃ n, n = row.length := ⟨_, rfl⟩
  rw [← hn] at hlen hr ⊢
  rcases fine43 a n cap row hn w hr with F | ⟨hc, hR, F⟩
  · have HF := Lib.hid F
    clear F hr hn
    go_enter Try.func15, Try.ntmps15
    have HE := Lib.hid (Ext.refl w)
    go_wp2_with fail
    refine (HF.out _ HE.out).mono ?_
    rintro e w1 ⟨rfl, rfl⟩
    go_wp2_with fail
    refine (works18 _).mono ?_
    rintro e w99 ⟨rfl, hb⟩
    have HE := Lib.hid (HE.out.trans hb)
    clear hb
    go_wp2
    go_ret
    exact ⟨rfl, HE.out⟩
  have HF := Lib.hid F
  clear F hr
  obtain ⟨hn30, -⟩ := chkR_ok.1 hc
  rw [← hn] at hn30
  obtain ⟨k, hk, hkn⟩ : ∃ k, k = y % (n + 1) ∧ k ≤ n := ⟨_, rfl, by have := Nat.mod_lt y (show 0 < n + 1 by omega); omega⟩
  have hRa := hR.take (k := k) (by omega) cap (by omega)
  have wy : IntKind.i64.wrap (y : Int) = (y : Int) := wrapi64 _ (by omega) (by omega)
  have wk : IntKind.i64.wrap (k : Int) = (k : Int) := wrapi64 _ (by omega) (by omega)
  have wn : IntKind.i64.wrap ((n : Int) + 1) = (n : Int) + 1 := wrapi64 _ (by omega) (by omega)
  have et : ((y : Nat) : Int).tmod ((n : Int) + 1) = (k : Int) := by rw [show ((n : Int) + 1) = ((n + 1 : Nat) : Int) from by push_cast; rfl, ← Int.ofNat_tmod, hk]
  have em : (y : Int) % ((n : Int) + 1) = (k : Int) := by rw [show ((n : Int) + 1) = ((n + 1 : Nat) : Int) from by push_cast; rfl, ← Int.natCast_emod, hk]
  have nz : ¬ ((n : Int) + 1 = 0) := by omega
  obtain ⟨f1, f2, f3⟩ := joined_facts row k (by omega)
  have HR := Lib.hid hR
  clear hk
  have HET := Lib.hid et; have HEM := Lib.hid em; have HF1 := Lib.hid (And.intro f1 (And.intro f2 f3)); have HRA := Lib.hid hRa
  have HN := Lib.hid hn; have HC := Lib.hid hc
  clear et em f1 f2 f3 hRa hR hn hc
  go_enter Try.func15, Try.ntmps15
  have HE := Lib.hid (Ext.refl w)
  go_wp2_with fail
  refine (HF.out _ HE.out).mono ?_
  rintro e w1 ⟨rfl, rfl⟩
  have et := HET.out
  have hkc : k ≤ cap := by omega
  have HRB := Lib.hid (show Reads w (.slice (if cap = k then a else Option.map (fun x => x.add k) a) (n - k) (cap - k)) (row.drop k) from by
    by_cases hck : cap = k
    · have h1 : row.drop k = [] := List.drop_eq_nil_of_le (by rw [← HN.out]; omega)
      rw [h1, if_pos hck]
      exact ⟨by simp, a, cap - k, by simp; omega, ⟨by simp, by omega⟩, .inl rfl⟩
    · rw [if_neg hck]
      exact HR.out.drop (by rw [← HN.out]; exact hkn) (fun b off h => by rw [h]; simp [Addr.add_lit]))
  go_upto_region 4 with fail
  go_quiet (fail)
  clear et
  generalize hgw : World.drewN w _ = W
  have hEW : Ext w W := by rw [← hgw]; exact (Ext.refl w).drewN _
  clear hgw
  have HE := Lib.hid (HE.out.trans hEW)
  obtain ⟨a', ha'⟩ : ∃ a', a' = (if cap = k then a else Option.map (fun x => x.add k) a) := ⟨_, rfl⟩
  obtain ⟨nb, hnb⟩ : ∃ nb, nb = n - k := ⟨_, rfl⟩
  obtain ⟨cb, hcb⟩ : ∃ cb, cb = cap - k := ⟨_, rfl⟩
  have hnb30 : nb ≤ 30 := by omega
  rw [← ha', ← hnb, ← hcb] at HRB ⊢
  have HRA2 := Lib.hid (HRA.out.ext HE.out); have HRB2 := Lib.hid (HRB.out.ext HE.out); have HR2 := Lib.hid (HR.out.ext HE.out)
  have la : (row.take k).length = k := by rw [List.length_take, ← HN.out]; omega
  have lb : (row.drop k).length = nb := by rw [List.length_drop, ← HN.out]; omega
  have C25a := Lib.hid (fun (X : World) (h : Ext W X) => few_of (chk_take HC.out k) _ X (HRA2.out.ext h))
  have C25b := Lib.hid (fun (X : World) (h : Ext W X) => few_of (chk_drop HC.out k) _ X (HRB2.out.ext h))
  have C25 := Lib.hid (fun (X : World) (h : Ext W X) => few_of HC.out _ X (HR2.out.ext h))
  obtain ⟨f1, f2, f3⟩ := HF1.out
  have ht := tab_le row
  rw [← HN.out] at ht
  rw [la] at f3
  generalize row.take k = ra at *
  generalize row.drop k = rb at *
  generalize (tab ra).length = f at *
  generalize (tab rb).length = g at *
  generalize (tab row).length = h at *
  have HF3 := Lib.hid f3
  obtain ⟨mx, hmx⟩ : ∃ mx : Int, mx = max (f : Int) (g : Int) := ⟨_, rfl⟩
  have hm1 : max (f : Int) (g : Int) = mx := hmx.symm
  have hm2 : (if (f : Int) < g then (g : Int) else f) = mx := by rw [hmx]; split <;> omega
  have hm3 : (if (g : Int) < f then (f : Int) else g) = mx := by rw [hmx]; split <;> omega
  have hm4 : (if f < g then (g : Int) else f) = mx := by rw [hmx]; split <;> omega
  have hm5 : (if g < f then (f : Int) else g) = mx := by rw [hmx]; split <;> omega
  have wfg : IntKind.i64.wrap ((f : Int) + g) = (f : Int) + g := wrapi64 _ (by omega) (by omega)
  have k1 : decide ((h : Int) > (f : Int) + g) = false := by simp; omega
  have k1b : decide ((f : Int) + g < h) = false := by simp; omega
  have k1c : decide (f + g < h) = false := by simp; omega
  have k2 : decide ((h : Int) < mx) = false := by simp; omega
  have HMX := Lib.hid hmx
  clear ha' hnb hcb HRA HRB f1 f2 f3 ht hmx hEW
  have HZ := Lib.hid (Ext.refl W)
  go_wp2_with fail
  refine (C25a.out _ HZ.out).mono ?_
  rintro e w3 ⟨rfl, hb⟩
  have HZ := Lib.hid (HZ.out.trans hb)
  clear hb
  go_wp2_with fail
  refine (C25b.out _ HZ.out).mono ?_
  rintro e w4 ⟨rfl, hb⟩
  have HZ := Lib.hid (HZ.out.trans hb)
  clear hb
  go_wp2_with fail
  refine (C25.out _ HZ.out).mono ?_
  rintro e w5 ⟨rfl, hb⟩
  have HZ := Lib.hid (HZ.out.trans hb)
  clear hb
  have HA := Lib.hid (HRA2.out.ext HZ.out); have HB := Lib.hid (HRB2.out.ext HZ.out)
  have HE := Lib.hid (HE.out.trans HZ.out)
  clear C25a C25b C25 HRA2 HRB2 HR2 HZ
  go_wp2
  go_loopg [14, 15] k (fun gg af i wr => ∃ q : Nat, q + gg = k ∧ i = .int .i64 (q : Int) ∧ af = .bool (aftTo ra rb q) ∧ Hid (Ext w5 wr))
  case atStart => exact ⟨0, by omega, rfl, rfl, Ext.refl _⟩
  case round =>
    obtain ⟨q, hqg, rfl, rfl, hE⟩ := hrel
    by_cases hlt : q < k
    · have hqa : (0 : Int) ≤ (q : Int) := by omega
      have hqb : (q : Int) < (k : Int) := by omega
      have HCA := Lib.hid (fun (X : World) (h : Ext w5 X) => (HA.out.ext h).at (k := q) (by rw [la]; exact hlt))
      obtain ⟨b1, off1, x, rfl, hx, -⟩ := HA.out.at (k := q) (by rw [la]; exact hlt)
      have HX := Lib.hid hx
      have HQX := Lib.hid (show rAt ra q = x from tAt_some hx)
      have HAS := Lib.hid (aftTo_succ ra rb q)
      obtain ⟨aq, haq⟩ : ∃ aq, aq = aftTo ra rb q := ⟨_, rfl⟩
      rw [← haq] at HAS ⊢
      clear hx haq
      go_wp2
      go_loopg [14, 16] nb (fun g2 af j wy => ∃ p : Nat, p + g2 = nb ∧ j = .int .i64 (p : Int) ∧ af = .bool (aq && leTo x rb p) ∧ Hid (Ext w5 wy))
      case atStart => exact ⟨0, by omega, rfl, by simp [leTo], hE.out⟩
      case round =>
        clear hE
        obtain ⟨p, hpg, rfl, rfl, hE⟩ := hrel
        by_cases hlp : p < nb
        · have hpa : (0 : Int) ≤ (p : Int) := by omega
          have hpb : (p : Int) < (nb : Int) := by omega
          have HPN := Lib.hid hlp
          obtain ⟨b2, off2, x2, hb2, hx2, hcx⟩ := HCA.out _ hE.out
          cases hb2
          have hxx : x2 = x := by have := HX.out; rw [hx2] at this; cases this; rfl
          subst hxx
          obtain ⟨b3, off3, z, rfl, hz, hcz⟩ := (HB.out.ext hE.out).at (k := p) (by rw [lb]; exact hlp)
          have hls := leTo_succ x2 rb p
          rw [show rAt rb p = z from tAt_some hz] at hls
          have HLS := Lib.hid hls
          obtain ⟨lq, hlq⟩ : ∃ lq, lq = leTo x2 rb p := ⟨_, rfl⟩
          rw [← hlq] at HLS ⊢
          have HE2 := Lib.hid hE.out
          clear hx2 hz hls hlq
          obtain ⟨ab, hab⟩ : ∃ ab, ab = (aq && lq) := ⟨_, rfl⟩
          have HAB := Lib.hid hab
          rw [← hab]
          clear hab
          cases ab
          · have HG := Lib.hid (show (aq && leTo x2 rb (p + 1)) = false from by rw [HLS.out, ← Bool.and_assoc, ← HAB.out]; rfl)
            go_upto_region 17 with fail
            go_quiet (fail)
            go_wp2
            go_roundg (nb - (p + 1))
            case measure => have := HPN.out; omega
            case rel => exact ⟨p + 1, by have := HPN.out; omega, by go_num, by rw [HG.out], HE2.out.trans ((Ext.refl _).drewN _)⟩
          · by_cases hle : x2 ≤ z
            · have d1 : decide (x2 ≤ z) = true := decide_eq_true hle
              have HG := Lib.hid (show (aq && leTo x2 rb (p + 1)) = true from by rw [HLS.out, ← Bool.and_assoc, ← HAB.out, d1]; rfl)
              go_upto_region 17 with fail
              go_quiet (fail)
              go_wp2
              go_roundg (nb - (p + 1))
              case measure => have := HPN.out; omega
              case rel => exact ⟨p + 1, by have := HPN.out; omega, by go_num, by rw [HG.out], HE2.out.trans ((Ext.refl _).drewN _)⟩
            · have d1 : decide (x2 ≤ z) = false := decide_eq_false hle
              have HG := Lib.hid (show (aq && leTo x2 rb (p + 1)) = false from by rw [HLS.out, ← Bool.and_assoc, ← HAB.out, d1]; rfl)
              go_upto_region 17 with fail
              go_quiet (fail)
              go_wp2
              go_roundg (nb - (p + 1))
              case measure => have := HPN.out; omega
              case rel => exact ⟨p + 1, by have := HPN.out; omega, by go_num, by rw [HG.out], HE2.out.trans ((Ext.refl _).drewN _)⟩
        · obtain rfl : p = nb := by omega
          have HG := Lib.hid (show (aq && leTo x rb p) = aftTo ra rb (q + 1) from by rw [HAS.out, HQX.out, lb])
          rw [HG.out]
          have HE2 := Lib.hid hE.out
          go_wp2
          go_roundg (k - (q + 1))
          case measure => omega
          case rel => exact ⟨q + 1, by omega, by go_num, rfl, HE2.out⟩
    · obtain rfl : q = k := by omega
      have HE := Lib.hid (HE.out.trans hE.out)
      obtain ⟨af, haf⟩ : ∃ af, af = aftTo ra rb q := ⟨_, rfl⟩
      have HAF := Lib.hid (show af = true → (h : Int) = mx from fun ht => by
        have := HF3.out (by rw [← haf]; exact ht)
        have h2 := HMX.out
        omega)
      rw [← haf]
      clear haf hE
      cases af
      · go_wp2_with fail
        refine (works18 _).mono ?_
        rintro e w99 ⟨rfl, hb⟩
        have HE := Lib.hid (HE.out.trans hb)
        clear hb
        go_wp2
        go_ret
        exact ⟨rfl, HE.out⟩
      · have hq1 : decide ((h : Int) = mx) = true := decide_eq_true (HAF.out rfl)
        have hq2 : ((h : Int) == mx) = true := by simpa using HAF.out rfl
        go_wp2_with fail
        refine (works18 _).mono ?_
        rintro e w99 ⟨rfl, hb⟩
        have HE := Lib.hid (HE.out.trans hb)
        clear hb
        go_wp2
        go_ret
        exact ⟨rfl, HE.out⟩
end Go.Proofs.Ytclcippfodjfeaa
