/- The reference's CheckRuns (39), by its contract. -/
import Derived.Test.YtclcippfodjfeaaR6
import Derived.Test.YtclcippfodjfeaaC4
namespace Go.Proofs.Ytclcippfodjfeaa
open Go.RowKit
set_option linter.unusedVariables false
set_option linter.unusedSimpArgs false
/-- In how many lists each log is, so far, as many as the row has. -/
structure CtN (N : Nat) (runs : List (List Int)) (i k : Nat) (ins : List Int) : Prop where
  len : ins.length = N
  is : ∀ j, j < N → tAt ins j = ((inCnt (runs.take i) j + (toN ((runs.getD i []).take k)).count j : Nat) : Int)
  bd : ∀ j, j < N → tAt ins j ≤ (i : Int) * 5000 + (k : Int)
theorem CtN.start (N : Nat) (runs : List (List Int)) : CtN N runs 0 0 (List.replicate N 0) :=
  ⟨by simp, fun j hj => by unfold tAt; rw [List.getD_eq_getElem?_getD, List.getElem?_replicate, if_pos hj]; simp [inCnt, toN], fun j hj => by unfold tAt; rw [List.getD_eq_getElem?_getD, List.getElem?_replicate, if_pos hj]; simp⟩
theorem CtN.step {N : Nat} {runs : List (List Int)} {i k p : Nat} {ins r : List Int} (h : CtN N runs i k ins) (hr : runs[i]? = some r) (hk : r[k]? = some (p : Int)) (hp : p < N) : CtN N runs i (k + 1) (ins.set p (tAt ins p + 1)) := by
  have e : runs.getD i [] = r := by rw [List.getD_eq_getElem?_getD, hr]; rfl
  refine ⟨by simp [h.len], fun j hj => ?_, fun j hj => ?_⟩
  · rw [tAt_setI (by rw [h.len]; exact hp)]
    have h1 := h.is j hj
    rw [e] at h1 ⊢
    rw [take_snoc hk]
    have : toN (r.take k ++ [(p : Int)]) = toN (r.take k) ++ [p] := by simp [toN]
    rw [this, List.count_append, List.count_singleton]
    by_cases hjp : j = p
    · subst hjp; rw [if_pos rfl, h1]; simp; omega
    · rw [if_neg hjp, h1, if_neg (by simpa using fun e => hjp e.symm)]; simp
  · rw [tAt_setI (by rw [h.len]; exact hp)]
    have := h.bd j hj
    split
    · rename_i e; subst e; omega
    · omega
theorem CtN.next {N : Nat} {runs : List (List Int)} {i : Nat} {ins r : List Int} (h : CtN N runs i r.length ins) (hr : runs[i]? = some r) (hl : r.length ≤ 5000) : CtN N runs (i + 1) 0 ins := by
  have e : runs.getD i [] = r := by rw [List.getD_eq_getElem?_getD, hr]; rfl
  refine ⟨h.len, fun j hj => ?_, fun j hj => ?_⟩
  · rw [h.is j hj, e, take_snoc hr, List.take_of_length_le (Nat.le_refl _)]
    unfold inCnt
    rw [List.map_append, List.sum_append]
    simp [toN]
  · have := h.bd j hj; omega
theorem CtN.part {N : Nat} {runs : List (List Int)} {ins : List Int} (h : CtN N runs runs.length 0 ins) {j : Nat} (hj : j < N) : tAt ins j = (inCnt runs j : Int) := by
  rw [h.is j hj, List.take_of_length_le (Nat.le_refl _)]; simp [toN]
theorem all_take_snoc {α : Type} {f : α → Bool} {rs : List α} {k : Nat} {r : α} (h : rs[k]? = some r) (h0 : (rs.take k).all f = true) (h1 : f r = true) : (rs.take (k + 1)).all f = true := by
  rw [take_snoc h, List.all_append, h0]; simp [h1]
theorem all_no {α : Type} {f : α → Bool} {rs : List α} {k : Nat} {r : α} (h : rs[k]? = some r) (h1 : f r = false) : rs.all f = false := List.all_eq_false.2 ⟨r, List.mem_of_getElem? h, by simp [h1]⟩
set_option maxRecDepth 100000 in
set_option maxHeartbeats 4000000 in
theorem refRuns39 (v vl : Value) (row : List Int) (many : Int) (rs : List (List Int)) (w : World) (hr : Reads w v row) (hl : ReadsL w vl rs) :
    Calls Try.prog 39 #[v, .int .i64 many, vl] w fun e w' => e = .returned (.tuple #[.int .i64 (runsV row many rs).1, .int .i64 (runsV row many rs).2]) ∧ Ext w w' := by
  have h41 := refAsked41 v row many w hr
  obtain ⟨hlr, a, cap, rfl⟩ := hr.shape
  obtain ⟨hll, a', cap', rfl⟩ := hl.shape
  have H60 := Lib.hid (fun (X : World) (h : Ext w X) u r (hu : Reads X u r) => rising60 _ u row r X (hr.ext h) hu)
  have hv1 : askE row many ≠ 0 → runsV row many rs = (0, askE row many) := fun h => by unfold runsV; rw [if_pos h]
  have hv2 : askE row many = 0 → 30 < rs.length → runsV row many rs = (0, 6) := fun h h2 => by unfold runsV; rw [if_neg (by simp [h]), if_pos h2]
  have hv3 : askE row many = 0 → ¬ 30 < rs.length → rs.all (listB row.length) = false → runsV row many rs = (0, 3) := fun h h2 h3 => by
    unfold runsV; rw [if_neg (by simp [h]), if_neg h2, if_pos h3]
  have hv4 : askE row many = 0 → ¬ 30 < rs.length → rs.all (listB row.length) = true → rs.all (decB row) = false → runsV row many rs = (0, 16) := fun h h2 h3 h4 => by
    unfold runsV; rw [if_neg (by simp [h]), if_neg h2, if_neg (by rw [h3]; simp), if_pos h4]
  have hv5 : askE row many = 0 → ¬ 30 < rs.length → rs.all (listB row.length) = true → rs.all (decB row) = true → partB row.length rs = false → runsV row many rs = (0, 14) := fun h h2 h3 h4 h5 => by
    unfold runsV; rw [if_neg (by simp [h]), if_neg h2, if_neg (by rw [h3]; simp), if_neg (by rw [h4]; simp), if_pos h5]
  have hv6 : askE row many = 0 → ¬ 30 < rs.length → rs.all (listB row.length) = true → rs.all (decB row) = true → partB row.length rs = true → runsV row many rs = (boundI many rs, 0) := fun h h2 h3 h4 h5 => by
    unfold runsV; rw [if_neg (by simp [h]), if_neg h2, if_neg (by rw [h3]; simp), if_neg (by rw [h4]; simp), if_neg (by rw [h5]; simp)]
  have HRL := Lib.hid (fun r (h : listB row.length r = false) => (show risE row r = 3 from by unfold risE; rw [if_pos h]))
  have HRD := Lib.hid (fun r (h : listB row.length r = true) (h2 : decB row r = false) => (show risE row r = 16 from by unfold risE; rw [if_neg (by rw [h]; simp), if_pos h2]))
  have HRG := Lib.hid (fun r (h : listB row.length r = true) (h2 : decB row r = true) => (show risE row r = 0 from by unfold risE; rw [if_neg (by rw [h]; simp), if_neg (by rw [h2]; simp)]))
  have H41 := Lib.hid h41
  have hbd := fun h0 h1 => boundI_bd (many := many) h0 h1
  have V1 := Lib.hid hv1; have V2 := Lib.hid hv2; have V3 := Lib.hid hv3; have V4 := Lib.hid hv4; have V5 := Lib.hid hv5; have V6 := Lib.hid hv6
  have HL := Lib.hid hl
  clear hv1 hv2 hv3 hv4 hv5 hv6 hr hl h41
  obtain ⟨r1, hr1⟩ : ∃ r1, r1 = (runsV row many rs).1 := ⟨_, rfl⟩
  obtain ⟨r2, hr2⟩ : ∃ r2, r2 = (runsV row many rs).2 := ⟨_, rfl⟩
  rw [← hr1, ← hr2]
  have HR1 := Lib.hid hr1; have HR2 := Lib.hid hr2
  clear hr1 hr2
  obtain ⟨n, hn⟩ : ∃ n, n = row.length := ⟨_, rfl⟩
  rw [← hn] at H41 H60 HRL HRD HRG V3 V4 V5 V6 hlr ⊢
  obtain ⟨m, hm⟩ : ∃ m, m = rs.length := ⟨_, rfl⟩
  rw [← hm] at V2 V3 V4 V5 V6 HL hll ⊢
  have HN := Lib.hid hn; have HM := Lib.hid hm
  clear hn hm
  obtain ⟨c, hc⟩ : ∃ c, c = askE row many := ⟨_, rfl⟩
  rw [← hc] at H41 V1 V2 V3 V4 V5 V6
  by_cases h0 : c = 0
  · subst h0
    obtain ⟨hc0, hm0, hm1⟩ := askE_ok hc.symm
    have hn30 : n ≤ 30 := by rw [HN.out]; exact (chkR_ok.1 hc0).1
    have HBD := Lib.hid (hbd hm0 hm1)
    clear hc hc0 hbd
    by_cases h30 : 30 < m
    · have hd : (30 : Int) < (m : Int) := by omega
      have hdd : decide ((30 : Int) < (m : Int)) = true := decide_eq_true hd
      have HV := Lib.hid (V2.out rfl h30)
      go_enter Try.func39, Try.ntmps39
      go_wp2_with fail
      refine H41.out.mono ?_
      rintro e w' ⟨rfl, rfl⟩
      go_wp2_with fail
      go_ret2
      rw [HR1.out, HR2.out, HV.out]
      exact ⟨rfl, Ext.refl _⟩
    · have hd : ¬ (30 : Int) < (m : Int) := by omega
      have hdd : decide ((30 : Int) < (m : Int)) = false := decide_eq_false hd
      clear V1 V2
      replace V3 := Lib.hid (V3.out rfl h30); replace V4 := Lib.hid (V4.out rfl h30); replace V5 := Lib.hid (V5.out rfl h30); replace V6 := Lib.hid (V6.out rfl h30)
      go_enter Try.func39, Try.ntmps39
      go_wp2_with fail
      refine H41.out.mono ?_
      rintro e w' ⟨rfl, rfl⟩
      go_wp2_with fail
      go_loopw [8] (fun i wr => ∃ k : Nat, k ≤ m ∧ i = .int .i64 (k : Int) ∧ Hid ((rs.take k).all (listB n) = true) ∧ Hid (Ext w wr)) (fun i wr => m - (intOf i).toNat)
      case atStart => exact ⟨0, Nat.zero_le _, rfl, (by rfl : _ = true), Ext.refl _⟩
      case round =>
        obtain ⟨k, hk, rfl, hI, hE⟩ := hrel
        by_cases hlt : k < m
        · obtain ⟨b, off, ak, capk, r, rfl, hx, hck, hrk⟩ := HL.out.at (show k < rs.length by rw [← HM.out]; exact hlt)
          have hck := cell_ext hE.out hck
          have hka : (0 : Int) ≤ (k : Int) := by omega
          have hkb : (k : Int) < (m : Int) := by omega
          obtain ⟨q, hq⟩ : ∃ q, q = r.length := ⟨_, rfl⟩
          rw [← hq] at hck hrk
          have h60 := H60.out wr hE.out _ r (hrk.ext hE.out)
          cases hlb : listB n r
          · rw [HRL.out r hlb] at h60
            have HF := Lib.hid (V3.out (all_no hx hlb))
            have HH := Lib.hid h60
            clear hx hrk hq h60 hlb
            go_wp2_with fail
            refine HH.out.mono ?_
            rintro e w1 ⟨rfl, hb⟩
            have HB := Lib.hid (hE.out.trans hb); clear hb
            go_wp2_with fail
            go_ret2
            rw [HR1.out, HR2.out, HF.out]
            exact ⟨rfl, HB.out⟩
          · have HI2 := Lib.hid (all_take_snoc hx hI.out hlb)
            have hne : risE row r ≠ 3 := by
              cases hdb : decB row r
              · rw [HRD.out r hlb hdb]; decide
              · rw [HRG.out r hlb hdb]; decide
            obtain ⟨ee, hee⟩ : ∃ ee, ee = risE row r := ⟨_, rfl⟩
            rw [← hee] at h60 hne
            have hdn : (ee == 3) = false := by simpa using hne
            have HH := Lib.hid h60
            clear hx hrk hq h60 hlb hee hne
            go_wp2_with fail
            refine HH.out.mono ?_
            rintro e w1 ⟨rfl, hb⟩
            have HB := Lib.hid (hE.out.trans hb); clear hb
            go_wp2_with fail
            go_roundw
            case rel => exact ⟨k + 1, by omega, by go_num, HI2.out, HB.out⟩
            case measure => simp [intOf]; omega
        · obtain rfl : m = k := by omega
          have hI2 := hI.out
          rw [List.take_of_length_le (by rw [← HM.out]; exact Nat.le_refl _)] at hI2
          have HALL := Lib.hid hI2
          replace V4 := Lib.hid (V4.out hI2); replace V5 := Lib.hid (V5.out hI2); replace V6 := Lib.hid (V6.out hI2)
          clear hI2 hI hlt hk V3
          go_wp2_with fail
          go_loopw [9] (fun i wr => ∃ k : Nat, k ≤ m ∧ i = .int .i64 (k : Int) ∧ Hid ((rs.take k).all (decB row) = true) ∧ Hid (Ext w wr)) (fun i wr => m - (intOf i).toNat)
          case atStart => exact ⟨0, Nat.zero_le _, rfl, (by rfl : _ = true), hE.out⟩
          case round =>
            clear hE
            obtain ⟨k, hk, rfl, hI, hE⟩ := hrel
            by_cases hlt : k < m
            · obtain ⟨b, off, ak, capk, r, rfl, hx, hck, hrk⟩ := HL.out.at (show k < rs.length by rw [← HM.out]; exact hlt)
              have hck := cell_ext hE.out hck
              have hka : (0 : Int) ≤ (k : Int) := by omega
              have hkb : (k : Int) < (m : Int) := by omega
              have hlb : listB n r = true := List.all_eq_true.1 HALL.out r (List.mem_of_getElem? hx)
              obtain ⟨q, hq⟩ : ∃ q, q = r.length := ⟨_, rfl⟩
              rw [← hq] at hck hrk
              have h60 := H60.out wr hE.out _ r (hrk.ext hE.out)
              cases hdb : decB row r
              · rw [HRD.out r hlb hdb] at h60
                have HF := Lib.hid (V4.out (all_no hx hdb))
                have HH := Lib.hid h60
                clear hx hrk hq h60 hlb hdb
                go_wp2_with fail
                refine HH.out.mono ?_
                rintro e w1 ⟨rfl, hb⟩
                have HB := Lib.hid (hE.out.trans hb); clear hb
                go_wp2_with fail
                go_ret2
                rw [HR1.out, HR2.out, HF.out]
                exact ⟨rfl, HB.out⟩
              · rw [HRG.out r hlb hdb] at h60
                have HI2 := Lib.hid (all_take_snoc hx hI.out hdb)
                have HH := Lib.hid h60
                clear hx hrk hq h60 hlb hdb
                go_wp2_with fail
                refine HH.out.mono ?_
                rintro e w1 ⟨rfl, hb⟩
                have HB := Lib.hid (hE.out.trans hb); clear hb
                go_wp2_with fail
                go_roundw
                case rel => exact ⟨k + 1, by omega, by go_num, HI2.out, HB.out⟩
                case measure => simp [intOf]; omega
            · obtain rfl : m = k := by omega
              have hI2 := hI.out
              rw [List.take_of_length_le (by rw [← HM.out]; exact Nat.le_refl _)] at hI2
              replace V5 := Lib.hid (V5.out hI2); replace V6 := Lib.hid (V6.out hI2)
              clear hI2 hI hlt hk V4
              have HEW := Lib.hid hE.out
              clear hE
              have hmk := make23 n (by omega)
              rename World => w2
              go_wp2_with fail
              clear hmk
              go_loopw [11, 12] (fun o i wr => ∃ k : Nat, k ≤ m ∧ i = .int .i64 (k : Int) ∧ o = .int .i64 (boundI many (rs.take k)) ∧ Hid (∃ ins, CtN n rs k 0 ins ∧ ArrI wr w2.heap.size 3 ins) ∧ Hid (Ext w2 wr)) (fun o i wr => m - (intOf i).toNat)
              case atStart => exact ⟨0, Nat.zero_le _, rfl, rfl, ⟨_, CtN.start n rs, ArrI.made w2 n 3⟩, (Ext.refl w2).alloc _⟩
              case round =>
                obtain ⟨i, hi, rfl, rfl, hA, hE⟩ := hrel
                by_cases hlt : i < m
                · obtain ⟨b, off, ak, capk, r, rfl, hx, hck, hrk⟩ := HL.out.at (show i < rs.length by rw [← HM.out]; exact hlt)
                  have HCK := Lib.hid (fun (X : World) (h : Ext w2 X) => cell_ext (HEW.out.trans h) hck)
                  have HRK := Lib.hid (fun (X : World) (h : Ext w2 X) => hrk.ext (HEW.out.trans h))
                  have hlb : listB n r = true := List.all_eq_true.1 HALL.out r (List.mem_of_getElem? hx)
                  have hat : ∀ (k : Nat) (x : Int), r[k]? = some x → 0 ≤ x ∧ x < (n : Int) := fun k x hk => by
                    unfold listB at hlb; rw [Bool.and_eq_true] at hlb
                    have h2 := List.all_eq_true.1 hlb.1 x (List.mem_of_getElem? hk)
                    simp at h2; omega
                  have hbs := boundI_snoc many rs hx
                  have hbd := HBD.out (rs.take i)
                  rw [List.length_take] at hbd
                  obtain ⟨B, hB⟩ : ∃ B, B = boundI many (rs.take i) := ⟨_, rfl⟩
                  rw [← hB] at hbs hbd ⊢
                  obtain ⟨q, hq⟩ : ∃ q, q = r.length := ⟨_, rfl⟩
                  have hq5 : q ≤ 5000 := by rw [hq]; exact hrk.1
                  rw [← hq] at HCK HRK hbs
                  have hB2 : 0 ≤ B ∧ B ≤ 900 := by omega
                  have HX := Lib.hid hx; have HQ := Lib.hid hq; have HAT := Lib.hid hat; have HBS := Lib.hid hbs
                  have hka : (0 : Int) ≤ (i : Int) := by omega
                  have hkb : (i : Int) < (m : Int) := by omega
                  clear hx hq hrk hck hlb hat hbs hbd hB
                  go_wp2
                  go_loopw [13] (fun j wr => ∃ k : Nat, k ≤ q ∧ j = .int .i64 (k : Int) ∧ Hid (∃ ins, CtN n rs i k ins ∧ ArrI wr w2.heap.size 3 ins) ∧ Hid (Ext w2 wr)) (fun j wr => q - (intOf j).toNat)
                  case atStart => exact ⟨0, Nat.zero_le _, rfl, hA, hE⟩
                  case round =>
                    clear hA hE
                    obtain ⟨k, hk, rfl, hA, hE⟩ := hrel
                    have hck := HCK.out wr hE.out
                    by_cases hlk : k < q
                    · obtain ⟨ins, hct, harr⟩ := hA.out
                      obtain ⟨b2, off2, x, rfl, hxx, hcx⟩ := (HRK.out wr hE.out).at (show k < r.length by rw [← HQ.out]; exact hlk)
                      obtain ⟨x0, x1⟩ := HAT.out k x hxx
                      obtain ⟨p, rfl⟩ : ∃ p : Nat, x = (p : Int) := ⟨x.toNat, by omega⟩
                      have hpn : p < n := by omega
                      have hnx := hct.step HX.out hxx hpn
                      have hb := hct.bd p hpn
                      have hb0 : 0 ≤ tAt ins p := by rw [hct.is p hpn]; omega
                      have hcp := harr.cell (p := p) (by rw [hct.len]; exact hpn)
                      have hfp := harr.frozen p
                      generalize tAt ins p = y at *
                      have hy : y ≤ 25005000 := by omega
                      have hpa : (0 : Int) ≤ (p : Int) := by omega
                      have hpb : (p : Int) < (n : Int) := by omega
                      have ht2 : (p : Int).toNat = p := by omega
                      have hka2 : (0 : Int) ≤ (k : Int) := by omega
                      have hkb2 : (k : Int) < (q : Int) := by omega
                      have HNX := Lib.hid hnx; have HARR := Lib.hid harr
                      clear hxx hct hnx harr hb hA hlk
                      go_wp2
                      go_roundw
                      case rel => exact ⟨k + 1, by omega, by go_num, Lib.hid ⟨_, HNX.out, HARR.out.set _ _⟩, Lib.hid (hE.out.set (Nat.le_refl _) _ _)⟩
                      case measure => simp [intOf]; omega
                    · obtain rfl : q = k := by omega
                      have HA2 := Lib.hid (show ∃ ins, CtN n rs (i + 1) 0 ins ∧ ArrI wr w2.heap.size 3 ins from by
                        obtain ⟨ins, h1, h2⟩ := hA.out
                        exact ⟨ins, CtN.next (r := r) (by rw [← HQ.out]; exact h1) HX.out (by rw [← HQ.out]; exact hq5), h2⟩)
                      rcases Int.lt_trichotomy many (q : Int) with h | h | h
                      all_goals
                        go_wp2
                        go_roundw
                        case rel => exact ⟨i + 1, by omega, by go_num, by rw [HBS.out]; first | (rw [show min many (q : Int) = many by omega]; done) | (rw [show min many (q : Int) = (q : Int) by omega]; done) | (rw [show min many (q : Int) = many by omega]; rfl) | (rw [show min many (q : Int) = (q : Int) by omega]; rfl), HA2.out, hE.out⟩
                        case measure => simp [intOf]; omega
                · obtain rfl : m = i := by omega
                  obtain ⟨ins, hct, harr⟩ := hA.out
                  have hcc := fun (j : Nat) (hj : j < n) => (show tAt ins j = (inCnt rs j : Int) from CtN.part (by rw [← HM.out]; exact hct) hj)
                  have HCC := Lib.hid hcc; have HARR := Lib.hid harr; have HLN := Lib.hid hct.len
                  have hB := show boundI many (rs.take m) = boundI many rs from by rw [List.take_of_length_le (by rw [← HM.out]; exact Nat.le_refl _)]
                  rw [hB]
                  obtain ⟨B, hBB⟩ : ∃ B, B = boundI many rs := ⟨_, rfl⟩
                  rw [← hBB] at V6 ⊢
                  clear hcc harr hct hA hB hBB
                  go_wp2
                  go_loopw [14] (fun j wr => ∃ k : Nat, k ≤ n ∧ j = .int .i64 (k : Int) ∧ Hid ((List.range k).all (fun j => inCnt rs j == 1) = true) ∧ Hid (ArrI wr w2.heap.size 3 ins) ∧ Hid (Ext w2 wr)) (fun j wr => n - (intOf j).toNat)
                  case atStart => exact ⟨0, Nat.zero_le _, rfl, (by rfl : _ = true), HARR.out, hE.out⟩
                  case round =>
                    clear hE HARR
                    obtain ⟨k, hk, rfl, hI, hA, hE⟩ := hrel
                    by_cases hlk : k < n
                    · have hcp := hA.out.cell (p := k) (by rw [HLN.out]; exact hlk)
                      rw [HCC.out k hlk] at hcp
                      have hpa : (0 : Int) ≤ (k : Int) := by omega
                      have hpc : (k : Int) < (n : Int) := by omega
                      have HIC := Lib.hid (show (List.range (k + 1)).all (fun j => inCnt rs j == 1) = (inCnt rs k == 1) by rw [List.range_succ, List.all_append, hI.out]; simp)
                      have HNO := Lib.hid (fun h : inCnt rs k ≠ 1 => V5.out (partB_no hlk h))
                      generalize inCnt rs k = y at *
                      by_cases hy : y = 1
                      · subst hy
                        go_wp2
                        go_roundw
                        case rel => exact ⟨k + 1, by omega, by go_num, HIC.out, hA.out, hE.out⟩
                        case measure => simp [intOf]; omega
                      · have hd : ((y : Int) != 1) = true := by simp; omega
                        have HF := Lib.hid (HNO.out hy); clear hy HNO
                        go_wp2
                        go_ret2
                        rw [HR1.out, HR2.out, HF.out]
                        exact ⟨rfl, HEW.out.trans hE.out⟩
                    · obtain rfl : n = k := by omega
                      have HF := Lib.hid (V6.out hI.out)
                      go_wp2
                      go_ret2
                      rw [HR1.out, HR2.out, HF.out]
                      exact ⟨rfl, HEW.out.trans hE.out⟩
  · have hd : (c != 0) = true := by simpa using h0
    have HV := Lib.hid (V1.out h0)
    clear V1 V2 V3 V4 V5 V6 h0 hc hbd
    go_enter Try.func39, Try.ntmps39
    go_wp2_with fail
    refine H41.out.mono ?_
    rintro e w' ⟨rfl, rfl⟩
    go_wp2_with fail
    refine H41.out.mono ?_
    rintro e w' ⟨rfl, rfl⟩
    go_wp2_with fail
    go_ret2
    rw [HR1.out, HR2.out, HV.out]
    exact ⟨rfl, Ext.refl _⟩
end Go.Proofs.Ytclcippfodjfeaa
