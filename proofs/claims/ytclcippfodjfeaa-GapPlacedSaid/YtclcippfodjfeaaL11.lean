/- GapPlaced, by its contract. -/
import Derived.Test.YtclcippfodjfeaaL2
import Derived.Deep.LoopGhost
namespace Go.Proofs.Ytclcippfodjfeaa
open Go.RowKit
set_option linter.unusedVariables false
set_option linter.unusedSimpArgs false
/-- Whether a log is in the first pocket, or one of the first k logs is in the pocket before, and wanted after it. -/
def fndTo (p row : List Int) (i k : Nat) : Bool := decide (tAt p i = 0) || (List.range k).any fun j => decide (tAt p j = tAt p i - 1) && decide (rAt row i < rAt row j)
theorem fnd_zero (p row : List Int) (i : Nat) : fndTo p row i 0 = decide (tAt p i = 0) := by unfold fndTo; simp
theorem fnd_succ (p row : List Int) (i k : Nat) : fndTo p row i (k + 1) = (fndTo p row i k || (decide (tAt p k = tAt p i - 1) && decide (rAt row i < rAt row k))) := by
  unfold fndTo
  rw [List.range_succ, List.any_append, Bool.or_assoc]
  simp
theorem place_at {row : List Int} {i : Nat} (hi : i < row.length) : 0 ≤ tAt (placeI row) i ∧ tAt (placeI row) i < fewM row := by
  rw [placeI_at hi]
  have := (pl_is row row.length).lt i hi
  unfold fewM placeM
  omega
theorem fnd_all {row : List Int} {i : Nat} (hi : i < row.length) : fndTo (placeI row) row i i = true := by
  unfold fndTo
  rw [placeI_at hi]
  by_cases h0 : nAt (placeM row) i = 0
  · simp [h0]
  · obtain ⟨j, h1, h2, h3⟩ := (pl_is row row.length).why i hi (by unfold placeM at h0; omega)
    rw [Bool.or_eq_true]
    right
    rw [List.any_eq_true]
    refine ⟨j, List.mem_range.2 h1, ?_⟩
    rw [placeI_at (by omega)]
    unfold placeM at *
    simp only [Bool.and_eq_true, decide_eq_true_eq]
    exact ⟨by omega, h3⟩
def topTo (p : List Int) (k : Nat) : Int := (List.range k).foldl (fun m i => max m (tAt p i)) (-1)
theorem top_succ (p : List Int) (k : Nat) : topTo p (k + 1) = max (topTo p k) (tAt p k) := by unfold topTo; rw [List.range_succ, List.foldl_append]; rfl
theorem top_bd {p : List Int} {M : Int} : ∀ k, (∀ i, i < k → tAt p i ≤ M) → -1 ≤ M → -1 ≤ topTo p k ∧ topTo p k ≤ M ∧ ∀ i, i < k → tAt p i ≤ topTo p k
  | 0, _, hM => ⟨by unfold topTo; simp, by unfold topTo; simpa using hM, fun i hi => by omega⟩
  | k + 1, h, hM => by
    obtain ⟨h1, h2, h3⟩ := top_bd k (fun i hi => h i (by omega)) hM
    have h4 := h k (by omega)
    rw [top_succ]
    refine ⟨by omega, by omega, fun i hi => ?_⟩
    by_cases e : i = k
    · subst e; omega
    · have := h3 i (by omega); omega
theorem top_all (row : List Int) : topTo (placeI row) row.length = (fewM row : Int) - 1 := by
  obtain ⟨h1, h2, h3⟩ := top_bd (p := placeI row) (M := (fewM row : Int) - 1) row.length (fun i hi => by have := place_at hi; omega) (by omega)
  by_cases h0 : fewM row = 0
  · omega
  · obtain ⟨i, q1, q2, -⟩ := (pl_is row row.length).is (fewM row - 1) (by unfold fewM at *; omega)
    have h4 := h3 i q1
    rw [placeI_at q1] at h4
    unfold placeM at h4
    omega
theorem place_turn {row : List Int} (hc : chkR row = 0) : turnV row (fewM row : Int) (placeI row) = ((row.length : Int), 0) := by
  obtain ⟨h1, h2⟩ := place_right row
  have hf : fewM row ≤ 30 := by
    have := tab_le30 hc; have := (chkR_ok.1 hc).1
    rw [few_tab]; omega
  rw [turnV_right hc hf h1, h2]
theorem place_of {row : List Int} (hc : chkR row = 0) (v : Value) (W : World) (h : Reads W v row) (n : Nat) (hn : n = row.length) : Calls Try.prog 31 #[v] W fun e w' => ∃ b, e = .returned (.tuple #[.slice (some ⟨b, 0, none⟩) n n, .int .i64 0]) ∧ Reads w' (.slice (some ⟨b, 0, none⟩) n n) (placeI row) ∧ Ext W w' := by
  have := place31 v row W h
  rw [hc] at this
  refine this.mono fun e w' ⟨h1, h2⟩ => ?_
  rcases h1 with ⟨h, -⟩ | ⟨-, b, hb, rfl, hr⟩
  · exact absurd rfl h
  · have hl : (placeI row).length = n := by rw [place_len, hn]
    have h5 : (placeI row).length ≤ 5000 := by rw [place_len]; exact h.1
    rw [hl]
    exact ⟨b, rfl, hr.reads h5 hl.symm ⟨Nat.le_refl _, by omega⟩, h2⟩
theorem few_at {row : List Int} (hc : chkR row = 0) (v : Value) (W : World) (h : Reads W v row) : Calls Try.prog 25 #[v] W fun e w' => e = .returned (.tuple #[.int .i64 (fewM row : Int), .int .i64 0]) ∧ Ext W w' := by
  have := fewest25 v row W h
  rwa [hc, if_pos rfl, ← few_tab] at this
attribute [local go_sem] Oper.semAt_some
set_option maxRecDepth 100000 in
set_option maxHeartbeats 4000000 in
theorem placed11 (a : Option Addr) (cap : Nat) (row : List Int) (w : World) (hlen : row.length ≤ cap ∧ cap ≤ 9223372036854775807) (hr : row.length ≤ 5000 → Reads w (.slice a row.length cap) row) :
    Calls Try.prog 11 #[.slice a row.length cap] w fun e w' => e = .returned (.bool true) ∧ Ext w w' := by
  obtain ⟨n, hn⟩ : ∃ n, n = row.length := ⟨_, rfl⟩
  rw [← hn] at hlen hr ⊢
  rcases fine43 a n cap row hn w hr with F | ⟨hc, hR, F⟩
  · have HF := Lib.hid F
    clear F hr hn
    go_enter Try.func11, Try.ntmps11
    have HE := Lib.hid (Ext.refl w)
    go_wp2_with fail
    refine (HF.out _ HE.out).mono ?_
    rintro e w1 ⟨rfl, rfl⟩
    go_wp2_with fail
    refine (works18 _).mono ?_
    rintro e w99 ⟨rfl, hb⟩
    have HE := Lib.hid (HE.out.trans hb)
    clear hb
    go_wp2
    go_ret
    exact ⟨rfl, HE.out⟩
  have HF := Lib.hid F
  clear F hr
  obtain ⟨hn30, -⟩ := chkR_ok.1 hc
  rw [← hn] at hn30
  have C31 := Lib.hid (fun (W : World) (h : Ext w W) => place_of hc _ W (hR.ext h) n hn)
  have C25 := Lib.hid (fun (W : World) (h : Ext w W) => few_at hc _ W (hR.ext h))
  have HT := Lib.hid (place_turn hc)
  have HFA := Lib.hid (fun i (h : i < n) => fnd_all (row := row) (i := i) (by rw [← hn]; exact h))
  have HPA := Lib.hid (fun i (h : i < n) => place_at (row := row) (i := i) (by rw [← hn]; exact h))
  have HTA := Lib.hid (top_all row)
  have hpl := place_len row
  have hff : fewM row ≤ n := by rw [few_tab, hn]; exact tab_le30 hc
  have HR := Lib.hid hR
  rw [← hn] at HT HTA hpl
  generalize placeI row = p at *
  generalize fewM row = f at *
  have k1 : decide ((f : Int) < 0) = false := by simp
  have k2 : decide ((f : Int) > 30) = false := by simp; omega
  have k3 : decide ((30 : Int) < f) = false := by simp; omega
  have k4 : decide (30 < f) = false := by simp; omega
  have HN := Lib.hid hn
  have wf1 : IntKind.i64.wrap ((f : Int) - 1) = (f : Int) - 1 := wrapi64 _ (by omega) (by omega)
  clear hn hR hc
  go_enter Try.func11, Try.ntmps11
  have HE := Lib.hid (Ext.refl w)
  go_wp2_with fail
  refine (HF.out _ HE.out).mono ?_
  rintro e w1 ⟨rfl, rfl⟩
  go_wp2_with fail
  refine (C31.out _ HE.out).mono ?_
  rintro e w2 ⟨pb, rfl, hx, hb⟩
  have HE := Lib.hid (HE.out.trans hb)
  have HP := Lib.hid hx
  clear hb hx
  go_wp2_with fail
  refine (C25.out _ HE.out).mono ?_
  rintro e w3 ⟨rfl, hb⟩
  have HE := Lib.hid (HE.out.trans hb)
  have HP := Lib.hid (HP.out.ext hb)
  clear hb
  go_wp2_with fail
  refine (turn19 _ _ _ _ _ _ _ _ (HR.out.ext HE.out) HP.out HT.out).mono ?_
  rintro e w4 ⟨rfl, hb⟩
  have HE := Lib.hid (HE.out.trans hb)
  have HP := Lib.hid (HP.out.ext hb)
  clear hb
  go_wp2_with fail
  refine (turn20 _ _ _ _ _ _ _ _ (HR.out.ext HE.out) HP.out HT.out).mono ?_
  rintro e w5 ⟨rfl, hb⟩
  have HE := Lib.hid (HE.out.trans hb)
  have HP := Lib.hid (HP.out.ext hb)
  clear hb
  go_wp2
  go_loopg [9, 10] n (fun g tp i wr => ∃ k : Nat, k + g = n ∧ i = .int .i64 (k : Int) ∧ tp = .int .i64 (topTo p k) ∧ Hid (Ext w5 wr))
  case atStart => exact ⟨0, by omega, rfl, rfl, Ext.refl _⟩
  case round =>
    obtain ⟨k, hkg, rfl, rfl, hE⟩ := hrel
    by_cases hlt : k < n
    · have hka : (0 : Int) ≤ (k : Int) := by omega
      have hkb : (k : Int) < (n : Int) := by omega
      obtain ⟨b1, off1, x, rfl, hx, hcx⟩ := (HR.out.ext (HE.out.trans hE.out)).at (show k < row.length by rw [← HN.out]; exact hlt)
      obtain ⟨t1, t2⟩ := HPA.out k hlt
      obtain ⟨pk, hpk⟩ : ∃ pk, pk = tAt p k := ⟨_, rfl⟩
      have hcp : wr.cell? ⟨pb, k, none⟩ = some (.int .i64 pk) := by
        have hcp := (HP.out.ext hE.out).get (k := k) (by rw [hpl]; exact hlt)
        rw [Nat.zero_add] at hcp
        rw [hpk]; exact hcp
      rw [← hpk] at t1 t2
      have HPK := Lib.hid hpk
      have HX := Lib.hid (show rAt row k = x from tAt_some hx)
      have HF0 := Lib.hid (show fndTo p row k 0 = decide (pk = 0) from by rw [hpk]; exact fnd_zero p row k)
      have HFS := Lib.hid (fun q => fnd_succ p row k q)
      have HFK := Lib.hid (HFA.out k hlt)
      have HCX := Lib.hid (fun (W : World) (h : Ext w5 W) => (show W.cell? ⟨b1, off1 + k, none⟩ = some (.int .i64 x) from by
        obtain ⟨b2, off2, x2, hb2, hx2, hcx2⟩ := (HR.out.ext (HE.out.trans h)).at (show k < row.length by rw [← HN.out]; exact hlt)
        cases hb2
        rw [hx] at hx2
        cases hx2
        exact hcx2))
      have HCP := Lib.hid (fun (W : World) (h : Ext w5 W) => (show W.cell? ⟨pb, k, none⟩ = some (.int .i64 pk) from by
        have := (HP.out.ext h).get (k := k) (by rw [hpl]; exact hlt)
        rw [Nat.zero_add] at this
        rw [HPK.out]; exact this))
      clear hx hpk
      go_wp2
      go_loopg [11, 12] k (fun g2 fb j wy => ∃ q : Nat, q + g2 = k ∧ j = .int .i64 (q : Int) ∧ fb = .bool (fndTo p row k q) ∧ Hid (Ext w5 wy))
      case atStart => exact ⟨0, by omega, rfl, by rw [HF0.out]; rfl, hE.out⟩
      case round =>
        clear hE
        obtain ⟨q, hqg, rfl, rfl, hE⟩ := hrel
        have hcx := (HCX.out wr hE.out)
        have hcp := (HCP.out wr hE.out)
        by_cases hq : q < k
        · have hqa : (0 : Int) ≤ (q : Int) := by omega
          have hqb : (q : Int) < (n : Int) := by omega
          have hqc : (q : Int) < (k : Int) := by omega
          obtain ⟨b2, off2, x2, hb2, hx2, hcx2⟩ := (HR.out.ext (HE.out.trans hE.out)).at (show q < row.length by rw [← HN.out]; omega)
          cases hb2
          obtain ⟨s1, s2⟩ := HPA.out q (by omega)
          obtain ⟨pq, hpq⟩ : ∃ pq, pq = tAt p q := ⟨_, rfl⟩
          have hcq : wr.cell? ⟨pb, q, none⟩ = some (.int .i64 pq) := by
            have hcq := (HP.out.ext hE.out).get (k := q) (by rw [hpl]; omega)
            rw [Nat.zero_add] at hcq
            rw [hpq]; exact hcq
          have hfs := HFS.out q
          rw [← hpq, ← HPK.out, HX.out, show rAt row q = x2 from tAt_some hx2] at hfs
          rw [← hpq] at s1 s2
          have HFQ := Lib.hid hfs
          obtain ⟨fb, hfb⟩ : ∃ fb, fb = fndTo p row k q := ⟨_, rfl⟩
          rw [← hfb] at HFQ ⊢
          have wpk : IntKind.i64.wrap (pk - 1) = pk - 1 := wrapi64 _ (by omega) (by omega)
          have hxl2 := hcx2; have HE2 := Lib.hid hE.out
          clear hpq hfs hfb hx2 hxl2
          cases fb
          · by_cases e1 : pq = pk - 1
            · have d1 : decide (pq = pk - 1) = true := decide_eq_true e1
              have d1' : (pq == pk - 1) = true := by simpa using e1
              by_cases e2 : x < x2
              · have d2 : decide (x < x2) = true := decide_eq_true e2
                have d3 : decide (x2 > x) = true := decide_eq_true e2
                have HG := Lib.hid (show fndTo p row k (q + 1) = true from by rw [HFQ.out, d1, d2]; rfl)
                clear e1
                go_upto_region 19 with fail
                go_quiet (fail)
                go_wp2
                go_roundg (k - (q + 1))
                case measure => omega
                case rel => exact ⟨q + 1, by omega, by go_num, by rw [HG.out], HE2.out.trans ((Ext.refl _).drewN _)⟩
              · have d2 : decide (x < x2) = false := decide_eq_false e2
                have d3 : decide (x2 > x) = false := decide_eq_false e2
                have HG := Lib.hid (show fndTo p row k (q + 1) = false from by rw [HFQ.out, d1, d2]; rfl)
                clear e1
                go_upto_region 19 with fail
                go_quiet (fail)
                go_wp2
                go_roundg (k - (q + 1))
                case measure => omega
                case rel => exact ⟨q + 1, by omega, by go_num, by rw [HG.out], HE2.out.trans ((Ext.refl _).drewN _)⟩
            · have d1 : decide (pq = pk - 1) = false := decide_eq_false e1
              have HG := Lib.hid (show fndTo p row k (q + 1) = false from by rw [HFQ.out, d1]; rfl)
              go_upto_region 19 with fail
              go_quiet (fail)
              go_wp2
              go_roundg (k - (q + 1))
              case measure => omega
              case rel => exact ⟨q + 1, by omega, by go_num, by rw [HG.out], HE2.out.trans ((Ext.refl _).drewN _)⟩
          · have HG := Lib.hid (show fndTo p row k (q + 1) = true from by rw [HFQ.out]; rfl)
            go_upto_region 19 with fail
            go_quiet (fail)
            go_wp2
            go_roundg (k - (q + 1))
            case measure => omega
            case rel => exact ⟨q + 1, by omega, by go_num, by rw [HG.out], HE2.out.trans ((Ext.refl _).drewN _)⟩
        · obtain rfl : q = k := by omega
          rw [HFK.out]
          have hts := top_succ p q
          rw [← HPK.out] at hts
          obtain ⟨tn, htn⟩ : ∃ tn, tn = topTo p (q + 1) := ⟨_, rfl⟩
          obtain ⟨tk, htk⟩ : ∃ tk, tk = topTo p q := ⟨_, rfl⟩
          rw [← htn, ← htk] at hts
          rw [← htk]
          have HTN := Lib.hid htn
          have hm1 : max tk pk = tn := hts.symm
          have hm2 : (if tk < pk then pk else tk) = tn := by rw [← hm1]; split <;> omega
          have hm3 : (if pk < tk then tk else pk) = tn := by rw [← hm1]; split <;> omega
          have hm4 : (if tk ≤ pk then pk else tk) = tn := by rw [← hm1]; split <;> omega
          have HE2 := Lib.hid hE.out
          clear hts htn htk
          go_wp2
          go_roundg (n - (q + 1))
          case measure => omega
          case rel => exact ⟨q + 1, by omega, by go_num, by rw [← HTN.out], HE2.out⟩
    · obtain rfl : k = n := by omega
      rw [HTA.out]
      have HE := Lib.hid (HE.out.trans hE.out)
      go_wp2_with fail
      refine (works18 _).mono ?_
      rintro e w99 ⟨rfl, hb⟩
      have HE := Lib.hid (HE.out.trans hb)
      clear hb
      go_wp2
      go_ret
      exact ⟨rfl, HE.out⟩
end Go.Proofs.Ytclcippfodjfeaa
