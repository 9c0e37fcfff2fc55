/- The reference's Run (34), by its contract. The rows of the examples (47). -/
import Derived.Test.YtclcippfodjfeaaR6
namespace Go.Proofs.Ytclcippfodjfeaa
open Go.RowKit
set_option linter.unusedVariables false
set_option linter.unusedSimpArgs false
theorem lgIn_snoc (row : List Int) (i : Nat) (long : List Int) (s c : Nat) : lgIn row i long (List.range' s (c + 1)) = if rAt row (s + c) < rAt row i then max (lgIn row i long (List.range' s c)) (tAt long (s + c) + 1) else lgIn row i long (List.range' s c) := by
  unfold lgIn
  rw [List.range'_1_concat, List.foldl_append]; rfl
theorem lgIn_bd {row : List Int} {i s : Nat} {long : List Int} {M : Int} (hM : 0 ≤ M) (h : ∀ j, tAt long j ≤ M) : ∀ c, 1 ≤ lgIn row i long (List.range' s c) ∧ lgIn row i long (List.range' s c) ≤ M + 1
  | 0 => ⟨by simp [lgIn], by simp [lgIn]; omega⟩
  | c + 1 => by
    have ih := lgIn_bd (row := row) (i := i) (s := s) hM h c
    have h1 := h (s + c)
    rw [lgIn_snoc]
    split <;> omega
theorem lg_bd (row : List Int) : ∀ k, k ≤ row.length → ∀ i, 0 ≤ tAt (lgTo row k) i ∧ tAt (lgTo row k) i ≤ k
  | 0, _, i => by
    have : tAt (lgTo row 0) i = 0 := by
      show (List.replicate row.length (0 : Int)).getD i 0 = 0
      rw [List.getD_eq_getElem?_getD, List.getElem?_replicate]; split <;> rfl
    omega
  | k + 1, hk, i => by
    have ih := lg_bd row k (by omega)
    have h1 := lgIn_bd (row := row) (i := row.length - (k + 1)) (s := row.length - k) (long := lgTo row k) (M := k) (by omega) (fun j => (ih j).2) k
    show 0 ≤ tAt ((lgTo row k).set _ _) i ∧ tAt ((lgTo row k).set _ _) i ≤ _
    rw [tAt_put _ _ _ _ (by rw [lgTo_len]; omega)]
    split
    · omega
    · have := ih i; omega
theorem bestTo_bd (row : List Int) : ∀ k, k ≤ row.length → 0 ≤ bestTo row k ∧ bestTo row k ≤ k
  | 0, _ => by simp [bestTo]
  | k + 1, hk => by
    have ih := bestTo_bd row k (by omega)
    have h1 := lg_bd row (k + 1) hk (row.length - (k + 1))
    show 0 ≤ max (bestTo row k) _ ∧ max (bestTo row k) _ ≤ _
    omega
theorem outTo_succ (row long : List Int) (best : Int) (k : Nat) : outTo row long best (k + 1) = outS row long best (outTo row long best k) k := by simp [outTo, List.range_succ]
theorem outTo_bd (row long : List Int) (best : Int) : ∀ k, (outTo row long best k).length ≤ k ∧ ∀ x ∈ outTo row long best k, x < k
  | 0 => by simp [outTo]
  | k + 1 => by
    have ih := outTo_bd row long best k
    rw [outTo_succ]
    unfold outS
    split
    · refine ⟨by simp; omega, fun x hx => ?_⟩
      rcases List.mem_append.1 hx with hx | hx
      · have := ih.2 x hx; omega
      · simp at hx; omega
    · exact ⟨by omega, fun x hx => by have := ih.2 x hx; omega⟩
theorem last_at {o : List Nat} {p : Nat} (h : o.length = p + 1) : tAt (o.map fun (n : Nat) => (n : Int)) p = (lastR o : Int) ∧ lastR o ∈ o := by
  have hp : p < o.length := by omega
  have hl : o.getLast? = some o[p] := by rw [List.getLast?_eq_getElem?, h, Nat.add_sub_cancel, List.getElem?_eq_getElem hp]
  unfold tAt lastR
  rw [hl, List.getD_eq_getElem?_getD, List.getElem?_map, List.getElem?_eq_getElem hp]
  exact ⟨rfl, List.getElem_mem hp⟩
set_option maxRecDepth 100000 in
set_option maxHeartbeats 8000000 in
theorem refRun34 (v : Value) (row : List Int) (w : World) (hr : Reads w v row) :
    Calls Try.prog 34 #[v] w (ListRef w (chkR row) ((longR row).map fun (n : Nat) => (n : Int))) := by
  have H22 := Lib.hid (refRow22 v row w hr)
  obtain ⟨hl, ar, cap, rfl⟩ := hr.shape
  obtain ⟨c, hc⟩ : ∃ c, c = chkR row := ⟨_, rfl⟩
  rw [← hc] at H22 ⊢
  clear hc
  obtain ⟨n, hn⟩ : ∃ n, n = row.length := ⟨_, rfl⟩
  rw [← hn] at hr H22 hl ⊢
  have HR := Lib.hid hr; have HN := Lib.hid hn
  have HLR := Lib.hid (show longR row = outTo row (lgTo row n) (bestTo row n) n from by rw [hn]; rfl)
  have hmk := make23 n (by omega)
  have hw0 : IntKind.i64.wrap ((n : Int) - 1) = (n : Int) - 1 := wrapi64 _ (by omega) (by omega)
  clear hr hn
  by_cases hc : c = 0
  · subst hc
    go_enter Try.func34, Try.ntmps34
    go_wp2_with fail
    refine H22.out.mono ?_
    rintro e w' ⟨rfl, rfl⟩
    go_wp2_with fail
    clear hmk hw0
    go_loopg [5, 6] n (fun g o i wr => ∃ k : Nat, k + g = n ∧ i = .int .i64 ((n : Int) - 1 - (k : Int)) ∧ o = .int .i64 (bestTo row k) ∧ Hid (ArrI wr w.heap.size 3 (lgTo row k)) ∧ Hid (Ext w wr))
    case atStart =>
      refine ⟨0, by omega, by simp, rfl, ?_, (Ext.refl w).alloc _⟩
      have h1 := ArrI.made w n 3
      have h2 : lgTo row 0 = List.replicate n 0 := by rw [HN.out]; rfl
      show ArrI _ _ _ _
      rw [h2]; exact h1
    case round =>
      obtain ⟨k, hkg, rfl, rfl, hA, hE⟩ := hrel
      by_cases hlt : k < n
      · obtain ⟨j, hj⟩ : ∃ j : Nat, j + 1 + k = n := ⟨n - 1 - k, by omega⟩
        have hjr : j < row.length := by rw [← HN.out]; omega
        have e1 : row.length - (k + 1) = j := by rw [← HN.out]; omega
        have e2 : row.length - k = j + 1 := by rw [← HN.out]; omega
        have hij : (n : Int) - 1 - (k : Int) = (j : Int) := by omega
        rw [hij]
        have hbb := bestTo_bd row k (by rw [← HN.out]; omega)
        have hub := lg_bd row k (by rw [← HN.out]; omega)
        have hlen := lgTo_len row k
        have hin := fun q => lgIn_bd (row := row) (i := j) (s := j + 1) (long := lgTo row k) (M := k) (by omega) (fun j => (hub j).2) q
        have hup : lgTo row (k + 1) = (lgTo row k).set j (lgIn row j (lgTo row k) (List.range' (j + 1) k)) := by show (lgTo row k).set (row.length - (k + 1)) _ = _; rw [e1, e2]
        have hbst : bestTo row (k + 1) = max (bestTo row k) (tAt (lgTo row (k + 1)) j) := by show max (bestTo row k) (tAt (lgTo row (k + 1)) (row.length - (k + 1))) = _; rw [e1]
        rw [hup, tAt_put _ _ _ _ (by rw [hlen]; exact hjr), if_pos rfl] at hbst
        have HIS := Lib.hid (fun q => lgIn_snoc row j (lgTo row k) (j + 1) q)
        have HI0 := Lib.hid (show lgIn row j (lgTo row k) (List.range' (j + 1) 0) = 1 from rfl)
        have HUB := Lib.hid hub; have HLEN := Lib.hid hlen; have HIN := Lib.hid hin; have HUP := Lib.hid hup; have HBST := Lib.hid hbst
        generalize lgTo row k = long at *
        obtain ⟨bst, hb⟩ : ∃ bst, bst = bestTo row k := ⟨_, rfl⟩
        rw [← hb] at HBST hbb ⊢
        have hja : (0 : Int) ≤ (j : Int) := by omega
        have hjb : (j : Int) < (n : Int) := by omega
        have ht1 : (j : Int).toNat = j := by omega
        have hw1 : IntKind.i64.wrap ((j : Int) - 1) = (j : Int) - 1 := wrapi64 _ (by omega) (by omega)
        have cA := hA.out.frozen j
        have cAc := hA.out.cell (p := j) (by rw [hlen]; exact hjr)
        obtain ⟨old, hold⟩ : ∃ old, old = tAt long j := ⟨_, rfl⟩
        rw [← hold] at cAc
        have HA1 := Lib.hid (hA.out.set j (1 : Int))
        have HE1 := Lib.hid (hE.out.set (Nat.le_refl _) j (.int .i64 1))
        have HJK := Lib.hid hj; have HIJ := Lib.hid hij
        clear hub hlen hin hup hbst hold hb e1 e2 hij
        go_wp2
        go_loopg [7] k (fun g2 jj wy => ∃ q : Nat, q + g2 = k ∧ jj = .int .i64 ((j : Int) + 1 + (q : Int)) ∧ Hid (ArrI wy w.heap.size 3 (long.set j (lgIn row j long (List.range' (j + 1) q)))) ∧ Hid (Ext w wy))
        case atStart => exact ⟨0, by omega, by simp, (by rw [HI0.out]; exact HA1.out : ArrI _ _ _ _), HE1.out⟩
        case round =>
          clear hA hE cA cAc HA1 HE1
          obtain ⟨q, hqg, rfl, hA, hE⟩ := hrel
          have hcb := (HIN.out q)
          have hs := HIS.out q
          have hll : (long.set j (lgIn row j long (List.range' (j + 1) q))).length = row.length := by rw [List.length_set, HLEN.out]
          have cA := hA.out.frozen j
          have cAc := hA.out.cell (p := j) (by rw [hll]; exact hjr)
          rw [tAt_put _ _ _ _ (by rw [HLEN.out]; exact hjr), if_pos rfl] at cAc
          obtain ⟨kk, hkk⟩ : ∃ kk, kk = j + 1 + q := ⟨_, rfl⟩
          have hki : (j : Int) + 1 + (q : Int) = (kk : Int) := by omega
          rw [hki]
          rw [← hkk] at hs
          by_cases hq : q < k
          · have hkr : kk < row.length := by rw [← HN.out]; omega
            have cq := hA.out.cell (p := kk) (by rw [hll]; omega)
            rw [tAt_put _ _ _ _ (by rw [HLEN.out]; exact hjr), if_neg (by omega)] at cq
            obtain ⟨b1, off1, x, rfl, hx, hcx⟩ := (HR.out.ext hE.out).at hjr
            obtain ⟨b2, off2, y, hb2, hy, hcy⟩ := (HR.out.ext hE.out).at hkr
            cases hb2
            have ex : rAt row j = x := tAt_some hx
            have ey : rAt row kk = y := tAt_some hy
            rw [ex, ey] at hs
            have hd := HUB.out kk
            obtain ⟨c, hcc⟩ : ∃ c, c = lgIn row j long (List.range' (j + 1) q) := ⟨_, rfl⟩
            obtain ⟨d, hdd⟩ : ∃ d, d = tAt long kk := ⟨_, rfl⟩
            rw [← hcc] at hs cAc hcb
            rw [← hdd] at hs cq hd
            have HS := Lib.hid hs
            have hqa : (0 : Int) ≤ (kk : Int) := by omega
            have hqb : (kk : Int) < (n : Int) := by omega
            have hqt : (kk : Int).toNat = kk := by omega
            have HAS := Lib.hid (fun (W : World) (h : Ext wr W) (z : Int) => (show ArrI (W.setCell ⟨w.heap.size, j, none⟩ (.int .i64 z)) w.heap.size 3 (long.set j z) from by
              have h1 := (hA.out.ext h).set j z
              rw [List.set_set] at h1; exact h1))
            have hwd : IntKind.i64.wrap (d + 1) = d + 1 := wrapi64 _ (by omega) (by omega)
            have HCC := Lib.hid hcc
            have HKI := Lib.hid (show (j : Int) + 1 + ((q + 1 : Nat) : Int) = (kk : Int) + 1 from by omega)
            have hkk0 : j < kk := by omega
            clear hs hx hy ex ey hll hcc hdd hki hkk hj
            by_cases hyx : y < x
            · have hdc : decide (y < x) = true := decide_eq_true hyx
              rw [if_pos hyx] at HS
              go_wp2
              go_quiet (fail)
              go_wp2
              refine any_world ((Ext.refl wr).drewN _) fun W hEW => ?_
              have HEW := Lib.hid hEW
              have dA : W.frozen? ⟨w.heap.size, j, none⟩ = false := (hA.out.ext hEW).frozen j
              have dAc := cell_ext hEW cAc
              have dq := cell_ext hEW cq
              clear cA cAc cq hcx hcy hEW
              rcases Int.lt_trichotomy c (d + 1) with h | h | h
              all_goals
                go_region_law (fail)
                all_goals
                  go_wp2
                  go_roundg (k - (q + 1))
                  case measure => omega
                  case rel =>
                    refine ⟨q + 1, by omega, by rw [HKI.out], ?_, ?_⟩
                    · show ArrI _ _ _ _
                      rw [HS.out]
                      first
                        | (rw [show max c (d + 1) = d + 1 by omega]; exact (HAS.out _ HEW.out _).ext (Ext.refl _).drew)
                        | (rw [show max c (d + 1) = c by omega]; exact (HAS.out _ HEW.out _).ext (Ext.refl _).drew)
                    · exact Ext.drew ((hE.out.trans HEW.out).set (Nat.le_refl _) _ _)
            · have hdc : decide (y < x) = false := decide_eq_false hyx
              rw [if_neg hyx] at HS
              go_wp2
              go_quiet (fail)
              go_wp2
              go_roundg (k - (q + 1))
              case measure => omega
              case rel => exact ⟨q + 1, by omega, by rw [HKI.out], (by rw [HS.out, HCC.out]; exact hA.out.ext ((Ext.refl wr).drewN _) : ArrI _ _ _ _), hE.out.drewN _⟩
          · obtain rfl : q = k := by omega
            have hkn : (kk : Int) = (n : Int) := by omega
            rw [hkn]
            have hbst := HBST.out
            obtain ⟨c, hcc⟩ : ∃ c, c = lgIn row j long (List.range' (j + 1) q) := ⟨_, rfl⟩
            rw [← hcc] at hbst cAc hcb
            have HB2 := Lib.hid hbst
            have HA2 := Lib.hid (show ArrI wr w.heap.size 3 (lgTo row (q + 1)) from by rw [HUP.out]; exact hA.out)
            have HNX := Lib.hid (show (j : Int) - 1 = (n : Int) - 1 - ((q + 1 : Nat) : Int) from by have := HJK.out; omega)
            clear hbst hcc hs hki hkk hkn hj
            rcases Int.lt_trichotomy bst c with h | h | h
            all_goals
              go_wp2
              go_roundg (n - (q + 1))
              case measure => omega
              case rel => exact ⟨q + 1, by omega, by rw [HNX.out], by rw [HB2.out]; first | (rw [show max bst c = c by omega]; done) | (rw [show max bst c = bst by omega]; done) | (rw [show max bst c = c by omega]; rfl) | (rw [show max bst c = bst by omega]; rfl), HA2.out, hE.out⟩
      · obtain rfl : n = k := by omega
        have hij : (n : Int) - 1 - (n : Int) = -1 := by omega
        rw [hij]
        have hbb := bestTo_bd row n (by rw [← HN.out]; exact Nat.le_refl _)
        have hub := lg_bd row n (by rw [← HN.out]; exact Nat.le_refl _)
        have HLEN := Lib.hid (lgTo_len row n)
        have hob := fun k => outTo_bd row (lgTo row n) (bestTo row n) k
        have HOS := Lib.hid (fun k => outTo_succ row (lgTo row n) (bestTo row n) k)
        have HUB := Lib.hid hub; have HOB := Lib.hid hob
        have HO0 := Lib.hid (show outTo row (lgTo row n) (bestTo row n) 0 = [] from rfl)
        generalize lgTo row n = long at *
        generalize bestTo row n = best at *
        clear hub hob hij
        go_wp2
        go_loopg [8, 9] n (fun g o i wq => ∃ k : Nat, k + g = n ∧ i = .int .i64 (k : Int) ∧ Hid (OwnI 3 (w.heap.size + 1) wq o ((outTo row long best k).map fun (n : Nat) => (n : Int))) ∧ Hid (ArrI wq w.heap.size 3 long) ∧ Hid (Ext w wq) ∧ Hid (w.heap.size + 1 ≤ wq.heap.size))
        case atStart => exact ⟨0, by omega, rfl, (by rw [HO0.out]; exact OwnI.nil _ _ _ : OwnI _ _ _ _ _), hA, hE, (lt_of_blk hA.out : _ < _)⟩
        case round =>
          clear hA hE
          obtain ⟨k, hkg, rfl, hO, hA, hE, hZ⟩ := hrel
          by_cases hlt : k < n
          · have hob := HOB.out k
            have hos := HOS.out k
            generalize outTo row long best k = o at *
            obtain ⟨av, capv, hv, hcv⟩ := hO.out.shape
            subst hv
            obtain ⟨lo, hlo⟩ : ∃ lo, lo = o.length := ⟨_, rfl⟩
            rw [List.length_map, ← hlo] at hO hcv ⊢
            rw [← hlo] at hob
            have hkr : k < row.length := by rw [← HN.out]; exact hlt
            obtain ⟨b1, off1, x, rfl, hx, hcx⟩ := (HR.out.ext hE.out).at hkr
            have ex : rAt row k = x := tAt_some hx
            have cl := hA.out.cell (p := k) (by rw [HLEN.out]; exact hkr)
            have hyb := HUB.out k
            obtain ⟨y, hy⟩ : ∃ y, y = tAt long k := ⟨_, rfl⟩
            rw [← hy] at cl hyb
            have hka : (0 : Int) ≤ (k : Int) := by omega
            have hkb : (k : Int) < (n : Int) := by omega
            have hkt : (k : Int).toNat = k := by omega
            have hlk := hob.1
            have hwb : IntKind.i64.wrap (best - (lo : Int)) = best - (lo : Int) := wrapi64 _ (by omega) (by omega)
            have HOW := Lib.hid (fun (W : World) (h : Ext wr W) => hO.out.ext h)
            have HAW := Lib.hid (fun (W : World) (h : Ext wr W) => hA.out.ext h)
            have HEW := Lib.hid (fun (W : World) (h : Ext wr W) => hE.out.trans h)
            have HZW := Lib.hid (fun (W : World) (h : Ext wr W) => Nat.le_trans hZ.out h.size)
            have HOL := Lib.hid (show (o.map fun (n : Nat) => (n : Int)).length ≤ 5000 from by rw [List.length_map, ← hlo]; omega)
            have HLO := Lib.hid hlo; have HOBK := Lib.hid hob; have HX := Lib.hid ex; have HYL := Lib.hid hy
            have HOSK := Lib.hid hos
            clear hx ex hy hob hos hlo
            by_cases heq : y = best - (lo : Int)
            · have hd1 : (y == best - (lo : Int)) = true := by simpa using heq
              have HEQ := Lib.hid heq
              clear heq
              by_cases h0 : lo = 0
              · have hd2 : ((lo : Int) == 0) = true := by simp [h0]
                have HNX := Lib.hid (show outTo row long best (k + 1) = o ++ [k] from by
                  rw [HOSK.out]; unfold outS
                  rw [if_pos ⟨by rw [← HYL.out, ← HLO.out]; exact HEQ.out, .inl (List.eq_nil_of_length_eq_zero (by rw [← HLO.out]; exact h0))⟩])
                clear h0
                go_wp2
                go_quiet (fail)
                go_wp2_with (at_builtin; first
                  | (refine appendN Try.underlying23 Try.info3 _ (w.heap.size + 1) (o.map fun (n : Nat) => (n : Int)) (k : Int) _ _ _ wr.heap.size (by simp) rfl rfl rfl (HOW.out _ ((Ext.refl wr).drewN _)) (HZW.out _ ((Ext.refl wr).drewN _)) HOL.out rfl ?_
                     intro v6 w6 hO6 hB6
                     have HO6 := Lib.hid hO6
                     have HA6 := Lib.hid (show ArrI w6 w.heap.size 3 long from (hB6.block _ (Nat.lt_succ_self _)).trans (HAW.out _ ((Ext.refl wr).drewN _)))
                     have HE6 := Lib.hid (show Ext w w6 from Below.trans (HEW.out _ ((Ext.refl wr).drewN _)) (hB6.mono (Nat.le_succ _)))
                     have HZ6 := Lib.hid (Nat.le_trans (HZW.out _ ((Ext.refl wr).drewN _)) hB6.size)
                     clear hO6 hB6)
                  | fail)
                go_roundg (n - (k + 1))
                case measure => omega
                case rel => exact ⟨k + 1, by omega, by go_num, (by rw [HNX.out, List.map_append]; exact HO6.out : OwnI _ _ _ _ _), HA6.out, HE6.out, HZ6.out⟩
              · obtain ⟨p, hp⟩ : ∃ p, lo = p + 1 := ⟨lo - 1, by omega⟩
                have hd2 : ((lo : Int) == 0) = false := by simpa using h0
                obtain ⟨hla, hlm⟩ := last_at (o := o) (p := p) (by rw [← HLO.out]; exact hp)
                have hlb := HOBK.out.2 _ hlm
                obtain ⟨l, hll⟩ : ∃ l, l = lastR o := ⟨_, rfl⟩
                obtain ⟨gv, hgv, -, -, hcq, -, -⟩ := hO.out.at (p := p) (by rw [List.length_map, ← HLO.out]; omega)
                subst hgv
                rw [hla, ← hll] at hcq
                rw [← hll] at hlb
                obtain ⟨b2, off2, z, hb2, hz, hcz⟩ := (HR.out.ext hE.out).at (show l < row.length by omega)
                cases hb2
                have HZL := Lib.hid (show rAt row l = z from tAt_some hz)
                have HLL := Lib.hid hll
                have hw1 : IntKind.i64.wrap ((lo : Int) - 1) = (p : Int) := by rw [show (lo : Int) - 1 = p from by omega]; exact wrapi64 _ (by omega) (by omega)
                have hpa : (0 : Int) ≤ (p : Int) := by omega
                have hpb : (p : Int) < (lo : Int) := by omega
                have hpt : (p : Int).toNat = p := by omega
                have hla2 : (0 : Int) ≤ (l : Int) := by omega
                have hlb2 : (l : Int) < (n : Int) := by omega
                have hlt2 : (l : Int).toNat = l := by omega
                have HONE := Lib.hid (show o ≠ [] from fun e => by have := HLO.out; rw [e] at this; simp at this; omega)
                clear hz hll hla hlm hp h0
                by_cases hxz : x < z
                · have hd3 : decide (x < z) = true := decide_eq_true hxz
                  have HNX := Lib.hid (show outTo row long best (k + 1) = o ++ [k] from by
                    rw [HOSK.out]; unfold outS
                    rw [if_pos ⟨by rw [← HYL.out, ← HLO.out]; exact HEQ.out, .inr (by rw [HX.out, ← HLL.out, HZL.out]; exact hxz)⟩])
                  go_wp2
                  go_quiet (fail)
                  go_wp2_with (at_builtin; first
                    | (refine appendN Try.underlying23 Try.info3 _ (w.heap.size + 1) (o.map fun (n : Nat) => (n : Int)) (k : Int) _ _ _ wr.heap.size (by simp) rfl rfl rfl (HOW.out _ ((Ext.refl wr).drewN _)) (HZW.out _ ((Ext.refl wr).drewN _)) HOL.out rfl ?_
                       intro v6 w6 hO6 hB6
                       have HO6 := Lib.hid hO6
                       have HA6 := Lib.hid (show ArrI w6 w.heap.size 3 long from (hB6.block _ (Nat.lt_succ_self _)).trans (HAW.out _ ((Ext.refl wr).drewN _)))
                       have HE6 := Lib.hid (show Ext w w6 from Below.trans (HEW.out _ ((Ext.refl wr).drewN _)) (hB6.mono (Nat.le_succ _)))
                       have HZ6 := Lib.hid (Nat.le_trans (HZW.out _ ((Ext.refl wr).drewN _)) hB6.size)
                       clear hO6 hB6)
                    | fail)
                  go_roundg (n - (k + 1))
                  case measure => omega
                  case rel => exact ⟨k + 1, by omega, by go_num, (by rw [HNX.out, List.map_append]; exact HO6.out : OwnI _ _ _ _ _), HA6.out, HE6.out, HZ6.out⟩
                · have hd3 : decide (x < z) = false := decide_eq_false hxz
                  have HNX := Lib.hid (show outTo row long best (k + 1) = o from by
                    rw [HOSK.out]; unfold outS
                    rw [if_neg (fun h => by
                      rcases h.2 with h3 | h3
                      · exact HONE.out h3
                      · rw [HX.out, ← HLL.out, HZL.out] at h3; omega)])
                  go_wp2
                  go_quiet (fail)
                  go_wp2
                  go_roundg (n - (k + 1))
                  case measure => omega
                  case rel => exact ⟨k + 1, by omega, by go_num, (by rw [HNX.out]; exact HOW.out _ ((Ext.refl wr).drewN _) : OwnI _ _ _ _ _), HAW.out _ ((Ext.refl wr).drewN _), HEW.out _ ((Ext.refl wr).drewN _), HZW.out _ ((Ext.refl wr).drewN _)⟩
            · have hd1 : (y == best - (lo : Int)) = false := by simpa using heq
              have HNX := Lib.hid (show outTo row long best (k + 1) = o from by
                rw [HOSK.out]; unfold outS
                rw [if_neg (fun h => heq (by rw [HYL.out, HLO.out]; exact h.1))])
              clear heq
              go_wp2
              go_quiet (fail)
              go_wp2
              go_roundg (n - (k + 1))
              case measure => omega
              case rel => exact ⟨k + 1, by omega, by go_num, (by rw [HNX.out]; exact HOW.out _ ((Ext.refl wr).drewN _) : OwnI _ _ _ _ _), HAW.out _ ((Ext.refl wr).drewN _), HEW.out _ ((Ext.refl wr).drewN _), HZW.out _ ((Ext.refl wr).drewN _)⟩
          · obtain rfl : n = k := by omega
            have HRR := Lib.hid (show Reads wr _ ((longR row).map fun (n : Nat) => (n : Int)) from by
              have h1 := hO.out.reads (by rw [List.length_map]; have := (HOB.out n).1; omega)
              rw [← HLR.out] at h1; exact h1)
            go_wp2
            try rw [Exit.noGoto_ret]
            go_ret2
            exact ⟨.inr ⟨rfl, _, rfl, HRR.out⟩, hE.out⟩
  · have hd : (c != 0) = true := by simpa using hc
    have HC := Lib.hid hc
    clear hc
    go_enter Try.func34, Try.ntmps34
    go_wp2_with fail
    refine H22.out.mono ?_
    rintro e w' ⟨rfl, rfl⟩
    go_wp2_with fail
    refine H22.out.mono ?_
    rintro e w' ⟨rfl, rfl⟩
    go_wp2
    go_ret2
    exact ⟨.inl ⟨HC.out, rfl⟩, Ext.refl _⟩
end Go.Proofs.Ytclcippfodjfeaa
namespace Go.Proofs.Ytclcippfodjfeaa
open Go.RowKit
set_option linter.unusedVariables false
set_option linter.unusedSimpArgs false
def rowH : List Int := [5, 2, 8, 1, 9, 3, 7, 4, 6]
def rowE : List Int := [2, 2, 1, 2]
set_option maxRecDepth 100000 in
theorem rows47 (w : World) : Calls Try.prog 47 #[] w fun e w' => ∃ u v, e = .returned (.tuple #[u, v]) ∧ Reads w' u rowH ∧ Reads w' v rowE ∧ Ext w w' := by
  have H1 := Lib.hid (Reads.new w rowH 2 _ rfl (by decide) _ rfl 9 9 rfl (by decide))
  have H2 := Lib.hid (Reads.new (w.alloc (.cells (rowH.map (Value.int .i64)).toArray 2)) rowE 2 (w.heap.size + 1) (by simp) (by decide) _ rfl 4 4 rfl (by decide))
  have HE := Lib.hid (((Ext.refl w).alloc (.cells (rowH.map (Value.int .i64)).toArray 2)).alloc (.cells (rowE.map (Value.int .i64)).toArray 2))
  have HX := Lib.hid ((Ext.refl (w.alloc (.cells (rowH.map (Value.int .i64)).toArray 2))).alloc (.cells (rowE.map (Value.int .i64)).toArray 2))
  go_enter Try.func47, Try.ntmps47
  go_wp2
  go_ret2
  exact ⟨_, _, rfl, H1.out.ext HX.out, H2.out, HE.out⟩
end Go.Proofs.Ytclcippfodjfeaa
