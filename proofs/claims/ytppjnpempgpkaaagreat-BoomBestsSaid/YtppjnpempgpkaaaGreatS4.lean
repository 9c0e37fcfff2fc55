/- The reference: CheckWays, by its contract. -/
import Derived.Test.YtppjnpempgpkaaaGreatSO
import Derived.Test.YtppjnpempgpkaaaGreatH7
import Derived.Test.YtppjnpempgpkaaaGreatH6
import Derived.Test.YtppjnpempgpkaaaGreatN3
import Derived.Test.YtppjnpempgpkaaaGreatK1
namespace Go.Proofs.YtppjnpempgpkaaaGreat
open Go.RowKit Go.Shelf
set_option linter.unusedVariables false
set_option linter.unusedSimpArgs false
attribute [local go_sem] Oper.semAt_some

set_option maxRecDepth 100000 in
set_option maxHeartbeats 8000000 in
theorem rcheckWays_ok (W H nw cw nk ck : Nat) (aw ak : Option Addr) (wn kn : List Nat) (hv : VP W H wn kn) (v : Value) (w : World) (hw : Reads w (.slice aw nw cw) (natI wn)) (hk : Reads w (.slice ak nk ck) (natI kn)) (ls : List WI) (hr : ReadsW w v ls) (h4k : ls.length ≤ 4000) :
    Calls Tryz.prog 25 #[.agg #[.int .i64 (W : Int), .int .i64 (H : Int), .slice aw nw cw, .slice ak nk ck], v] w fun e w' => e = .returned (.tuple #[.int .i64 (if chkW (gp hv) W H (natI wn) (natI kn) ls = 0 then (ls.length : Int) else 0), .int .i64 (chkW (gp hv) W H (natI wn) (natI kn) ls)]) ∧ Ext w w' := by
  have hW : 1 ≤ W ∧ W ≤ 8 := ⟨hv.w1, hv.w8⟩
  have hH : 1 ≤ H ∧ H ≤ 8 := ⟨hv.h1, hv.h8⟩
  have h0 : chkP W H (natI wn) (natI kn) = 0 := chkP_ok.2 ⟨W, H, wn, kn, ⟨rfl, rfl⟩, ⟨rfl, rfl⟩, hv⟩
  have HCP := Lib.hid (fun (X : World) (h : Ext w X) => rcheckPond_c W H nw cw nk ck aw ak (natI wn) (natI kn) X (hw.ext h) (hk.ext h))
  rw [h0] at HCP
  have hn64 := hv.n64
  have HCE := Lib.hid (fun (X : World) => rcells_c W H nw cw nk ck aw ak hW.2 hH.2 X)
  have HIW := Lib.hid (fun (X : World) (h : Ext w X) (x : WI) (s : Value) (hs : Reads X s x.1) (hne : 0 < x.1.length) (hin : cellsB (W * H) x = true) => risWay_c W H nw cw nk ck aw ak (natI wn) (natI kn) x.1 x.2 s X hW hH (hw.ext h) (hk.ext h) hs hne (fun y hy => by
    unfold cellsB at hin
    rw [Bool.and_eq_true, inn_mem] at hin
    have := hin.1 y hy
    omega) (by
    unfold cellsB at hin
    rw [Bool.and_eq_true, Bool.and_eq_true, decide_eq_true_iff, decide_eq_true_iff] at hin
    exact hin.2))
  obtain ⟨r, hrr⟩ : ∃ r, r = chkW (gp hv) W H (natI wn) (natI kn) ls := ⟨_, rfl⟩
  rw [← hrr]
  obtain ⟨ab, hab⟩ : ∃ ab, ab = apB (gp hv) ls := ⟨_, rfl⟩
  have HR := Lib.hid (show r = if 256 < ls.length ∨ ls.all longB = false then 6 else if ls.all (cellsB (W * H)) = false then 2 else if ls.all (wayB W H (natI wn) (natI kn)) = false then 16 else if ab = false then 11 else 0 from by rw [hrr, hab]; rfl)
  have HAB := Lib.hid (show ab = apB (gridP W H hW.2 hH.2) ls from hab)
  obtain ⟨hl, a, cap, rfl⟩ := hr.shape
  have HC := Lib.hid hr
  obtain ⟨n, hn⟩ : ∃ n, n = ls.length := ⟨_, rfl⟩
  have HN := Lib.hid hn
  rw [← hn] at hl HC HR ⊢
  obtain ⟨cnt, hcnt⟩ : ∃ cnt, cnt = if r = 0 then (n : Int) else 0 := ⟨_, rfl⟩
  rw [← hcnt]
  have HCNT := Lib.hid hcnt
  clear hcnt
  obtain ⟨w1, hw1⟩ : ∃ w1, w1 = w.alloc (.cells #[.int .i64 (W : Int), .int .i64 (H : Int), .slice aw nw cw, .slice ak nk ck] 24) := ⟨_, rfl⟩
  have E0 := Lib.hid (show Ext w w1 from by rw [hw1]; exact (Ext.refl w).alloc _)
  have B0 := Lib.hid (show w1.heap[w.heap.size]? = some (.cells #[.int .i64 (W : Int), .int .i64 (H : Int), .slice aw nw cw, .slice ak nk ck] 24 (0, 0)) from by rw [hw1]; exact heap_alloc_new w _)
  obtain ⟨c0, c1, c2, c3⟩ := cells4 B0.out
  have hn63 : n ≤ 9223372036854775806 := by omega
  clear hrr hab hr hn h4k h0 hw hk hv
  go_enter Tryz.func25, Tryz.ntmps25
  go_upto_region 1 with fail
  rw [← hw1]
  clear hw1
  by_cases h256 : 256 < n
  · have HVV := Lib.hid (show r = 6 from by rw [HR.out, if_pos (.inl h256)])
    have h256i : (256 : Int) < (n : Int) := by omega
    clear HR
    go_wp2_with (first | (go_at_call 36; refine Calls.mono (HCP.out _ E0.out) ?_; intro e Y1 h1; obtain ⟨h1, hE⟩ := h1; subst h1; have HE1 := Lib.hid (E0.out.trans hE); clear hE) | fail)
    refine bodyPost_ret (by first | (simp [results, Tryz.results25, go_sem]; done) | (simp [results, Tryz.results25, go_sem]; rfl)) rfl ?_
    refine ⟨?_, HE1.out⟩
    rw [HCNT.out, HVV.out]; rfl
  · have HR2 := Lib.hid (show r = if ls.all longB = false then 6 else if ls.all (cellsB (W * H)) = false then 2 else if ls.all (wayB W H (natI wn) (natI kn)) = false then 16 else if ab = false then 11 else 0 from by
      rw [HR.out]
      by_cases h : ls.all longB = false
      · rw [if_pos (.inr h), if_pos h]
      · rw [if_neg (fun q => q.elim h256 h), if_neg h])
    have h256i : ¬ (256 : Int) < (n : Int) := by omega
    have h256n : n ≤ 256 := by omega
    clear HR h256
    go_wp2_with (first | (go_at_call 36; refine Calls.mono (HCP.out _ E0.out) ?_; intro e Y1 h1; obtain ⟨h1, hE⟩ := h1; subst h1; have HE1 := Lib.hid (E0.out.trans hE); have B1 := Lib.hid (block_ext hE B0.out); clear hE) | fail)
    clear E0 B0 c0 c1 c2 c3 HCP h256i
    go_loopw [6] (fun i wr => ∃ k : Nat, k ≤ n ∧ i = .int .i64 (k : Int) ∧ Hid ((ls.take k).all longB = true) ∧ Hid (wr.heap[w.heap.size]? = some (.cells #[.int .i64 (W : Int), .int .i64 (H : Int), .slice aw nw cw, .slice ak nk ck] 24 (0, 0))) ∧ Hid (Ext w wr)) (fun i wr => n - (intOf i).toNat)
    case atStart => exact ⟨0, Nat.zero_le _, rfl, Lib.hid rfl, B1, HE1⟩
    case round =>
      clear B1 HE1
      obtain ⟨k, hk, rfl, hI, hp, hE⟩ := hrel
      by_cases hlt : k < n
      · obtain ⟨b, off, x, s, rfl, hx, hc0, hrd, hc1⟩ := (HC.out.ext hE.out).at (show k < ls.length by have := HN.out; omega)
        obtain ⟨hs1, sa, sc, rfl⟩ := hrd.shape
        obtain ⟨lx, hlx⟩ : ∃ lx, lx = x.1.length := ⟨_, rfl⟩
        have HAT := Lib.hid (show (ls.take (k + 1)).all longB = (decide (1 ≤ lx) && decide (lx ≤ 64)) from by rw [all_takeG hx, hI.out, hlx]; rfl)
        rw [← hlx] at hc0 hs1
        have hka : (0 : Int) ≤ (k : Int) := by omega
        have hkb : (k : Int) < (n : Int) := by omega
        obtain ⟨q1, hq1⟩ : ∃ q, decide ((lx : Int) < 1) = q := ⟨_, rfl⟩
        obtain ⟨q2, hq2⟩ : ∃ q, decide ((64 : Int) < (lx : Int)) = q := ⟨_, rfl⟩
        have hq3 : decide (lx < 1) = q1 := by rw [← hq1]; exact decide_eq_decide.2 (by omega)
        have hqa : (decide (1 ≤ lx) && decide (lx ≤ 64)) = !(q1 || q2) := by
          rw [← hq1, ← hq2]
          by_cases h1 : (lx : Int) < 1 <;> by_cases h2 : (64 : Int) < (lx : Int) <;> simp [h1, h2] <;> omega
        rw [hqa] at HAT
        clear hx hrd hlx hqa
        by_cases hqq : (q1 || q2) = true
        · have HVV := Lib.hid (show r = 6 from by
            rw [HR2.out, if_pos]
            have h1 := HAT.out
            rw [hqq, Bool.not_true, List.all_eq_false] at h1
            rw [List.all_eq_false]
            obtain ⟨y, hy, h2⟩ := h1
            exact ⟨y, List.mem_of_mem_take hy, h2⟩)
          clear HAT HR2
          cases q1 <;> cases q2 <;> first
            | (exfalso; revert hqq; decide)
            | (go_wp2
               refine bodyPost_ret (by first | (simp [results, Tryz.results25, go_sem]; done) | (simp [results, Tryz.results25, go_sem]; rfl)) rfl ?_
               refine ⟨?_, hE.out⟩
               rw [HCNT.out, HVV.out]; rfl)
        · rw [Bool.not_eq_true] at hqq
          have HA2 := Lib.hid (show (ls.take (k + 1)).all longB = true from by rw [HAT.out, hqq]; rfl)
          obtain ⟨rfl, rfl⟩ : q1 = false ∧ q2 = false := by cases q1 <;> cases q2 <;> simp_all
          go_wp2
          go_roundw
          case rel => exact ⟨k + 1, by omega, by go_num, HA2, hp, hE⟩
          case measure => simp [intOf]; omega
      · obtain rfl : n = k := by omega
        have HLA := Lib.hid (show ls.all longB = true from by
          have h1 := hI.out
          rw [List.take_of_length_le (by have := HN.out; omega)] at h1
          exact h1)
        have HR3 := Lib.hid (show r = if ls.all (cellsB (W * H)) = false then 2 else if ls.all (wayB W H (natI wn) (natI kn)) = false then 16 else if ab = false then 11 else 0 from by
          rw [HR2.out, HLA.out, if_neg (by decide)])
        clear HR2 hI hlt
        have HWH := Lib.hid (show W * H ≤ 64 from Nat.mul_le_mul hW.2 hH.2)
        obtain ⟨m, hm0⟩ : ∃ m, m = W * H := ⟨_, rfl⟩
        have hm := Lib.hid hm0
        clear hm0
        go_wp2
        go_loopw [7] (fun i wr => ∃ k : Nat, k ≤ n ∧ i = .int .i64 (k : Int) ∧ Hid ((ls.take k).all (cellsB (W * H)) = true) ∧ Hid (wr.heap[w.heap.size]? = some (.cells #[.int .i64 (W : Int), .int .i64 (H : Int), .slice aw nw cw, .slice ak nk ck] 24 (0, 0))) ∧ Hid (Ext w wr)) (fun i wr => n - (intOf i).toNat)
        case atStart => exact ⟨0, Nat.zero_le _, rfl, Lib.hid rfl, hp, hE⟩
        case round =>
          clear hp hE
          obtain ⟨i, hi, rfl, hI, hp, hE⟩ := hrel
          by_cases hlt : i < n
          · obtain ⟨b, off, x, s, rfl, hx, hc0, hrd, hc1⟩ := HC.out.at (show i < ls.length by have := HN.out; omega)
            obtain ⟨hs1, sa, sc, rfl⟩ := hrd.shape
            obtain ⟨xs, o⟩ := x
            dsimp only at hc0 hc1 hrd hs1
            obtain ⟨lx, hlx⟩ : ∃ lx, lx = xs.length := ⟨_, rfl⟩
            rw [← hlx] at hc0 hs1 hrd
            have HX := Lib.hid hx; have HLX := Lib.hid hlx; have HRD := Lib.hid hrd; have HC0 := Lib.hid hc0; have HC1 := Lib.hid hc1
            have hia : (0 : Int) ≤ (i : Int) := by omega
            have hib : (i : Int) < (n : Int) := by omega
            have hit : (i : Int).toNat = i := by omega
            have hl64 : lx ≤ 64 := by
              have h1 := List.all_eq_true.1 HLA.out _ (List.mem_of_getElem? hx)
              unfold longB at h1
              rw [Bool.and_eq_true, decide_eq_true_iff, decide_eq_true_iff] at h1
              rw [hlx]
              exact h1.2
            clear hx hlx hrd hc0 hc1 hs1
            have hc0 := cell_ext hE.out HC0.out
            go_wp2
            clear hc0
            go_loopw [8] (fun j wr => ∃ k : Nat, k ≤ lx ∧ j = .int .i64 (k : Int) ∧ Hid (inn 0 ((m : Int) - 1) (xs.take k) = true) ∧ Hid (wr.heap[w.heap.size]? = some (.cells #[.int .i64 (W : Int), .int .i64 (H : Int), .slice aw nw cw, .slice ak nk ck] 24 (0, 0))) ∧ Hid (Ext w wr)) (fun j wr => lx - (intOf j).toNat)
            case atStart => exact ⟨0, Nat.zero_le _, rfl, (by rfl : _ = true), hp, hE⟩
            case round =>
              clear hp hE
              obtain ⟨k, hk, rfl, hJ, hp, hE⟩ := hrel
              by_cases hlk : k < lx
              · obtain ⟨b2, off2, y, rfl, hy, hcy⟩ := HRD.out.at (show k < xs.length by have := HLX.out; omega)
                have HY := Lib.hid hy
                have hc0 := cell_ext hE.out HC0.out
                replace hcy := cell_ext hE.out hcy
                have hka : (0 : Int) ≤ (k : Int) := by omega
                have hkb : (k : Int) < (lx : Int) := by omega
                have hkt : (k : Int).toNat = k := by omega
                have HAT := Lib.hid (show inn 0 ((m : Int) - 1) (xs.take (k + 1)) = (decide (0 ≤ y) && decide (y ≤ (m : Int) - 1)) from by rw [take_snoc hy, inn_snoc, hJ.out, Bool.true_and])
                clear hy
                obtain ⟨q1, hq1⟩ : ∃ q, decide (y < 0) = q := ⟨_, rfl⟩
                obtain ⟨q2, hq2⟩ : ∃ q, decide ((m : Int) ≤ y) = q := ⟨_, rfl⟩
                have HQQ := Lib.hid (show (decide (0 ≤ y) && decide (y ≤ (m : Int) - 1)) = (!q1 && !q2) from by
                  rw [← hq1, ← hq2]
                  by_cases h1 : y < 0 <;> by_cases h2 : (m : Int) ≤ y <;> simp [h1, h2] <;> omega)
                have HNB := Lib.hid (show (q1 = true ∨ q2 = true) → r = 2 from fun hqq => by
                  rw [HR3.out, if_pos]
                  rw [List.all_eq_false]
                  refine ⟨_, List.mem_of_getElem? HX.out, ?_⟩
                  unfold cellsB
                  have h1 : inn 0 ((m : Int) - 1) xs = false := by
                    have h2 : inn 0 ((m : Int) - 1) (xs.take (k + 1)) = false := by rw [HAT.out, HQQ.out]; rcases hqq with rfl | rfl <;> simp
                    unfold inn at h2 ⊢
                    rw [List.all_eq_false] at h2 ⊢
                    obtain ⟨z, hz, h3⟩ := h2
                    exact ⟨z, List.mem_of_mem_take hz, h3⟩
                  rw [← hm.out]
                  dsimp only
                  rw [h1]; simp)
                have HCE2 := Lib.hid (show ∀ X : World, Calls Tryz.prog 31 #[.agg #[.int .i64 (W : Int), .int .i64 (H : Int), .slice aw nw cw, .slice ak nk ck]] X fun e w' => e = .returned (.int .i64 (m : Int)) ∧ Ext X w' from fun X => by rw [hm.out]; exact HCE.out X)
                have HE := hE
                have HQ1 := Lib.hid hq1
                have HQ2 := Lib.hid hq2
                clear hq1 hq2
                go_upto_region 16 with fail
                refine wp_region_order ((fun Y : World => Y.heap[w.heap.size]? = some (.cells #[.int .i64 (W : Int), .int .i64 (H : Int), .slice aw nw cw, .slice ak nk ck] 24 (0, 0)) ∧ Y.cell? ⟨b, off + i * 2, none⟩ = some (.slice (some ⟨b2, off2, none⟩) lx sc) ∧ Y.cell? ⟨b2, off2 + k, none⟩ = some (.int .i64 y))) [0, 1, 2, 3, 4, 5, 6, 7, 8, 9, 10, 11, 12, 13, 14, 15, 16, 17, 18, 19, 20, 21] (by kernel_rfl) (by kernel_rfl) (by exact ⟨hp.out, hc0, hcy⟩) (fun hHeld => ?_)
                simp only [opsIn, List.filterMap_cons, List.filterMap_nil, List.getElem?_toArray, List.getElem?_cons_succ, List.getElem?_cons_zero]
                refine' text_chunk 10 (by kernel_rfl) hHeld ?ck1 ?cr1
                case ck1 =>
                  intro W hSw
                  have hSW := hSw
                  try dsimp only at hSW
                  clear hSw
                  obtain ⟨s1, s2, s3⟩ := hSW
                  obtain ⟨z0, z1, z2, z3⟩ := cells4 s1
                  clear s1
                  simp only [List.take_succ_cons, List.take_zero, List.drop_succ_cons, List.drop_zero]
                  repeat (go_big_quiet_step (fail))
                  exact wpQuiet_nil rfl
                simp only [List.take_succ_cons, List.take_zero, List.drop_succ_cons, List.drop_zero]
                generalize decide (y < 0) = qa at *
                have hqa := HQ1.out
                subst hqa
                clear HQ1
                cases qa
                · skip
                  refine' text_chunk 9 (by kernel_rfl) hHeld ?ck2 ?cr2
                  case ck2 =>
                    intro W hSw
                    have hSW := hSw
                    try dsimp only at hSW
                    clear hSw
                    obtain ⟨s1, s2, s3⟩ := hSW
                    obtain ⟨z0, z1, z2, z3⟩ := cells4 s1
                    clear s1
                    simp only [List.take_succ_cons, List.take_zero, List.drop_succ_cons, List.drop_zero]
                    repeat (go_big_quiet_step (fail))
                    exact wpQuiet_nil rfl
                  simp only [List.take_succ_cons, List.take_zero, List.drop_succ_cons, List.drop_zero]
                  refine text_call (by rfl) (by rfl) (fun K hK => ?_)
                  go_simp
                  refine Calls.mono (HCE2.out _) ?_
                  intro e Y5 h1; obtain ⟨h1, hE5⟩ := h1; subst h1
                  have HD5 := Lib.hid hE5
                  clear hE5
                  all_goals (try (go_wp2_with fail))
                  refine hK.out _ _ (by exact ⟨block_ext HD5.out hHeld.1, cell_ext HD5.out hHeld.2.1, cell_ext HD5.out hHeld.2.2⟩) (fun hHeld => ?_)
                  clear hK K
                  try simp only [Act.put, List.setIfInBounds_toArray, List.set_cons_zero, List.set_cons_succ]
                  refine' text_chunk 2 (by kernel_rfl) hHeld ?ck3 ?cr3
                  case ck3 =>
                    intro W hSw
                    have hSW := hSw
                    try dsimp only at hSW
                    clear hSw
                    skip
                    simp only [List.take_succ_cons, List.take_zero, List.drop_succ_cons, List.drop_zero]
                    repeat (go_big_quiet_step (fail))
                    exact wpQuiet_nil rfl
                  simp only [List.take_succ_cons, List.take_zero, List.drop_succ_cons, List.drop_zero]
                  generalize decide ((m : Int) ≤ y) = qb at *
                  have hqb := HQ2.out
                  subst hqb
                  clear HQ2
                  refine text_done ?_
                  have HP5 := Lib.hid hHeld.1
                  have HE5 := Lib.hid (HE.out.drew.trans HD5.out)
                  clear hHeld HD5
                  cases qb
                  · have HJ2 := Lib.hid (show inn 0 ((m : Int) - 1) (xs.take (k + 1)) = true from by rw [HAT.out, HQQ.out]; rfl)
                    go_wp2
                    go_roundw
                    case rel => exact ⟨k + 1, by omega, by go_num, HJ2, HP5, HE5⟩
                    case measure => simp [intOf]; omega
                  · have HVV := Lib.hid (HNB.out (.inr rfl))
                    go_wp2
                    refine bodyPost_ret (by first | (simp [results, Tryz.results25, go_sem]; done) | (simp [results, Tryz.results25, go_sem]; rfl)) rfl ?_
                    refine ⟨?_, HE5.out⟩
                    rw [HCNT.out, HVV.out]; rfl
                · skip
                  generalize hww : wpText _ _ _ _ = ww
                  refine skip_gen hww (by rfl) ?_
                  try simp only [Act.put, List.setIfInBounds_toArray, List.set_cons_zero, List.set_cons_succ]
                  refine skip_gen hww (by rfl) ?_
                  try simp only [Act.put, List.setIfInBounds_toArray, List.set_cons_zero, List.set_cons_succ]
                  refine skip_gen hww (by rfl) ?_
                  try simp only [Act.put, List.setIfInBounds_toArray, List.set_cons_zero, List.set_cons_succ]
                  refine skip_gen hww (by rfl) ?_
                  try simp only [Act.put, List.setIfInBounds_toArray, List.set_cons_zero, List.set_cons_succ]
                  refine skip_gen hww (by rfl) ?_
                  try simp only [Act.put, List.setIfInBounds_toArray, List.set_cons_zero, List.set_cons_succ]
                  refine skip_gen hww (by rfl) ?_
                  try simp only [Act.put, List.setIfInBounds_toArray, List.set_cons_zero, List.set_cons_succ]
                  refine skip_gen hww (by rfl) ?_
                  try simp only [Act.put, List.setIfInBounds_toArray, List.set_cons_zero, List.set_cons_succ]
                  refine skip_gen hww (by rfl) ?_
                  try simp only [Act.put, List.setIfInBounds_toArray, List.set_cons_zero, List.set_cons_succ]
                  refine skip_gen hww (by rfl) ?_
                  try simp only [Act.put, List.setIfInBounds_toArray, List.set_cons_zero, List.set_cons_succ]
                  refine skip_gen hww (by rfl) ?_
                  try simp only [Act.put, List.setIfInBounds_toArray, List.set_cons_zero, List.set_cons_succ]
                  refine skip_gen hww (by rfl) ?_
                  try simp only [Act.put, List.setIfInBounds_toArray, List.set_cons_zero, List.set_cons_succ]
                  subst hww
                  refine' text_chunk 1 (by kernel_rfl) hHeld ?ck4 ?cr4
                  case ck4 =>
                    intro W hSw
                    have hSW := hSw
                    try dsimp only at hSW
                    clear hSw
                    skip
                    simp only [List.take_succ_cons, List.take_zero, List.drop_succ_cons, List.drop_zero]
                    repeat (go_big_quiet_step (fail))
                    exact wpQuiet_nil rfl
                  simp only [List.take_succ_cons, List.take_zero, List.drop_succ_cons, List.drop_zero]
                  refine text_done ?_
                  have HVV := Lib.hid (HNB.out (.inl rfl))
                  go_wp2
                  refine bodyPost_ret (by first | (simp [results, Tryz.results25, go_sem]; done) | (simp [results, Tryz.results25, go_sem]; rfl)) rfl ?_
                  refine ⟨?_, HE.out.drew⟩
                  rw [HCNT.out, HVV.out]; rfl
              · obtain rfl : k = lx := by omega
                have HIN := Lib.hid (show inn 0 ((m : Int) - 1) xs = true from by
                  have h1 := hJ.out
                  rw [List.take_of_length_le (by have := HLX.out; omega)] at h1
                  exact h1)
                have hc0 := cell_ext hE.out HC0.out
                have hc1 := cell_ext hE.out HC1.out
                obtain ⟨q1, hq1⟩ : ∃ q, decide (o < -1) = q := ⟨_, rfl⟩
                obtain ⟨q2, hq2⟩ : ∃ q, decide ((3 : Int) < o) = q := ⟨_, rfl⟩
                have HCB := Lib.hid (show cellsB (W * H) (xs, o) = (!q1 && !q2) from by
                  unfold cellsB
                  dsimp only
                  rw [← hm.out, HIN.out, Bool.true_and, ← hq1, ← hq2]
                  by_cases h1 : o < -1 <;> by_cases h2 : 3 < o <;> simp [h1, h2] <;> omega)
                by_cases hqq : (q1 || q2) = true
                · have HVV := Lib.hid (show r = 2 from by
                    rw [HR3.out, if_pos]
                    rw [List.all_eq_false]
                    refine ⟨_, List.mem_of_getElem? HX.out, ?_⟩
                    rw [HCB.out]
                    cases q1 <;> cases q2 <;> simp_all)
                  clear HCB
                  cases q1 <;> cases q2 <;> first
                    | (exfalso; revert hqq; decide)
                    | (go_wp2
                       refine bodyPost_ret (by first | (simp [results, Tryz.results25, go_sem]; done) | (simp [results, Tryz.results25, go_sem]; rfl)) rfl ?_
                       refine ⟨?_, hE.out⟩
                       rw [HCNT.out, HVV.out]; rfl)
                · rw [Bool.not_eq_true] at hqq
                  obtain ⟨rfl, rfl⟩ : q1 = false ∧ q2 = false := by cases q1 <;> cases q2 <;> simp_all
                  have HI2 := Lib.hid (show (ls.take (i + 1)).all (cellsB (W * H)) = true from by rw [all_takeG HX.out, hI.out, HCB.out]; rfl)
                  clear HCB hI
                  go_wp2
                  go_roundw
                  case rel => exact ⟨i + 1, by omega, by go_num, HI2, hp, hE⟩
                  case measure => simp [intOf]; omega
          · obtain rfl : n = i := by omega
            have HCA := Lib.hid (show ls.all (cellsB (W * H)) = true from by
              have h1 := hI.out
              rw [List.take_of_length_le (by have := HN.out; omega)] at h1
              exact h1)
            have HR4 := Lib.hid (show r = if ls.all (wayB W H (natI wn) (natI kn)) = false then 16 else if ab = false then 11 else 0 from by
              rw [HR3.out, HCA.out, if_neg (by decide)])
            clear HR3 hI hlt hm
            go_wp2
            go_loopw [9] (fun i wr => ∃ k : Nat, k ≤ n ∧ i = .int .i64 (k : Int) ∧ Hid ((ls.take k).all (wayB W H (natI wn) (natI kn)) = true) ∧ Hid (wr.heap[w.heap.size]? = some (.cells #[.int .i64 (W : Int), .int .i64 (H : Int), .slice aw nw cw, .slice ak nk ck] 24 (0, 0))) ∧ Hid (Ext w wr)) (fun i wr => n - (intOf i).toNat)
            case atStart => exact ⟨0, Nat.zero_le _, rfl, Lib.hid rfl, hp, hE⟩
            case round =>
              clear hp hE
              obtain ⟨i, hi, rfl, hI, hp, hE⟩ := hrel
              by_cases hlt : i < n
              · obtain ⟨b, off, x, s, rfl, hx, hc0, hrd, hc1⟩ := (HC.out.ext hE.out).at (show i < ls.length by have := HN.out; omega)
                obtain ⟨hs1, sa, sc, rfl⟩ := hrd.shape
                obtain ⟨xs, o⟩ := x
                dsimp only at hc0 hc1 hrd hs1
                obtain ⟨lx, hlx⟩ : ∃ lx, lx = xs.length := ⟨_, rfl⟩
                rw [← hlx] at hc0 hs1 hrd
                have hmx := List.mem_of_getElem? hx
                have hne : 0 < xs.length := by
                  have h1 := List.all_eq_true.1 HLA.out _ hmx
                  unfold longB at h1
                  rw [Bool.and_eq_true, decide_eq_true_iff, decide_eq_true_iff] at h1
                  exact h1.1
                have hcb := List.all_eq_true.1 HCA.out _ hmx
                have hia : (0 : Int) ≤ (i : Int) := by omega
                have hib : (i : Int) < (n : Int) := by omega
                have hit : (i : Int).toNat = i := by omega
                obtain ⟨q, hq⟩ : ∃ q, q = wayB W H (natI wn) (natI kn) (xs, o) := ⟨_, rfl⟩
                have HWY := Lib.hid (show ∀ X : World, Ext wr X → Calls Tryz.prog 62 #[.agg #[.int .i64 (W : Int), .int .i64 (H : Int), .slice aw nw cw, .slice ak nk ck], .agg #[.slice sa lx sc, .int .i64 o]] X fun e w' => e = .returned (.bool q) ∧ Ext X w' from fun X h => by
                  rw [hq]
                  exact HIW.out X (hE.out.trans h) (xs, o) _ (hrd.ext h) hne hcb)
                have HI2 := Lib.hid (show (ls.take (i + 1)).all (wayB W H (natI wn) (natI kn)) = q from by rw [all_takeG hx, hI.out, hq, Bool.true_and])
                have HE := hE
                clear hx hlx hrd hs1 hmx hne hcb hq
                go_upto_region 23 with fail
                refine wp_region_order ((fun Y : World => Y.heap[w.heap.size]? = some (.cells #[.int .i64 (W : Int), .int .i64 (H : Int), .slice aw nw cw, .slice ak nk ck] 24 (0, 0)) ∧ Y.cell? ⟨b, off + i * 2, none⟩ = some (.slice sa lx sc) ∧ Y.cell? ⟨b, off + i * 2 + 1, none⟩ = some (.int .i64 o))) [0, 1, 2, 3, 4, 5, 6] (by kernel_rfl) (by kernel_rfl) (by exact ⟨hp.out, hc0, hc1⟩) (fun hHeld => ?_)
                simp only [opsIn, List.filterMap_cons, List.filterMap_nil, List.getElem?_toArray, List.getElem?_cons_succ, List.getElem?_cons_zero]
                refine' text_chunk 5 (by kernel_rfl) hHeld ?ck5 ?cr5
                case ck5 =>
                  intro W hSw
                  have hSW := hSw
                  try dsimp only at hSW
                  clear hSw
                  obtain ⟨s1, s2, s3⟩ := hSW
                  obtain ⟨z0, z1, z2, z3⟩ := cells4 s1
                  clear s1
                  simp only [List.take_succ_cons, List.take_zero, List.drop_succ_cons, List.drop_zero]
                  repeat (go_big_quiet_step (fail))
                  exact wpQuiet_nil rfl
                simp only [List.take_succ_cons, List.take_zero, List.drop_succ_cons, List.drop_zero]
                refine text_call (by rfl) (by rfl) (fun K hK => ?_)
                go_simp
                refine Calls.mono (HWY.out _ ((Ext.refl _).drew)) ?_
                intro e Y5 h1; obtain ⟨h1, hE5⟩ := h1; subst h1
                have HD5 := Lib.hid hE5
                clear hE5
                all_goals (try (go_wp2_with fail))
                refine hK.out _ _ (by exact ⟨block_ext HD5.out hHeld.1, cell_ext HD5.out hHeld.2.1, cell_ext HD5.out hHeld.2.2⟩) (fun hHeld => ?_)
                clear hK K
                try simp only [Act.put, List.setIfInBounds_toArray, List.set_cons_zero, List.set_cons_succ]
                refine' text_chunk 1 (by kernel_rfl) hHeld ?ck6 ?cr6
                case ck6 =>
                  intro W hSw
                  have hSW := hSw
                  try dsimp only at hSW
                  clear hSw
                  skip
                  simp only [List.take_succ_cons, List.take_zero, List.drop_succ_cons, List.drop_zero]
                  repeat (go_big_quiet_step (fail))
                  exact wpQuiet_nil rfl
                simp only [List.take_succ_cons, List.take_zero, List.drop_succ_cons, List.drop_zero]
                refine text_done ?_
                have HP5 := Lib.hid hHeld.1
                have HE5 := Lib.hid (HE.out.drew.trans HD5.out)
                clear hHeld HD5 hc0 hc1
                cases q
                · have HVV := Lib.hid (show r = 16 from by
                    rw [HR4.out, if_pos]
                    have h1 := HI2.out
                    rw [List.all_eq_false] at h1 ⊢
                    obtain ⟨y, hy, h2⟩ := h1
                    exact ⟨y, List.mem_of_mem_take hy, h2⟩)
                  go_wp2
                  refine bodyPost_ret (by first | (simp [results, Tryz.results25, go_sem]; done) | (simp [results, Tryz.results25, go_sem]; rfl)) rfl ?_
                  refine ⟨?_, HE5.out⟩
                  rw [HCNT.out, HVV.out]; rfl
                · go_wp2
                  go_roundw
                  case rel => exact ⟨i + 1, by omega, by go_num, HI2, HP5, HE5⟩
                  case measure => simp [intOf]; omega
              · obtain rfl : n = i := by omega
                have HWA := Lib.hid (show ls.all (wayB W H (natI wn) (natI kn)) = true from by
                  have h1 := hI.out
                  rw [List.take_of_length_le (by have := HN.out; omega)] at h1
                  exact h1)
                have HR5 := Lib.hid (show r = if ab = false then 11 else 0 from by
                  rw [HR4.out, HWA.out, if_neg (by decide)])
                have HOK := Lib.hid (show ∀ x ∈ ls, WOk W H x from fun x hx => wok_of hW.2 hH.2 (List.all_eq_true.1 HLA.out x hx) (List.all_eq_true.1 HCA.out x hx) (List.all_eq_true.1 HWA.out x hx))
                have HOUT := Lib.hid (show ∀ x ∈ ls, ∀ k, (toW x).2 = some k → bhP W H (lastN (toW x).1, k) = none from fun x hx => edge_out (HOK.out x hx) (List.all_eq_true.1 HWA.out x hx))
                have HAP := Lib.hid (show ab = decide ((ls.flatMap (sidL W H)).Nodup) from by rw [HAB.out]; exact apB_names hW.2 hH.2 HOK.out HOUT.out)
                have HLT := Lib.hid (show ∀ x ∈ ls, ∀ y ∈ sidL W H x, ∃ c : Nat, c < 256 ∧ y = (c : Int) from fun x hx => sidL_lt hW.2 hH.2 (HOK.out x hx) (HOUT.out x hx))
                clear HR4 hI hlt HAB
                go_wp2
                go_loopw [10, 11] (fun u i wr => ∃ k : Nat, k ≤ n ∧ i = .int .i64 (k : Int) ∧ Hid (OwnI 3 (w.heap.size + 1) wr u ((ls.take k).flatMap (sidL W H))) ∧ Hid (((ls.take k).flatMap (sidL W H)).Nodup) ∧ Hid (wr.heap[w.heap.size]? = some (.cells #[.int .i64 (W : Int), .int .i64 (H : Int), .slice aw nw cw, .slice ak nk ck] 24 (0, 0))) ∧ Hid (Ext w wr)) (fun u i wr => n - (intOf i).toNat)
                case atStart => exact ⟨0, Nat.zero_le _, rfl, Lib.hid (OwnI.nil _ _ _), Lib.hid (by simp), hp, hE⟩
                case round =>
                  clear hp hE
                  obtain ⟨i, hi, rfl, hO, hN, hp, hE⟩ := hrel
                  by_cases hlt : i < n
                  · obtain ⟨b, off, x, s, rfl, hx, hc0, hrd, hc1⟩ := (HC.out.ext hE.out).at (show i < ls.length by have := HN.out; omega)
                    obtain ⟨hs1, sa, sc, rfl⟩ := hrd.shape
                    obtain ⟨xs, o⟩ := x
                    dsimp only at hc0 hc1 hrd hs1
                    obtain ⟨lx, hlx⟩ : ∃ lx, lx = xs.length := ⟨_, rfl⟩
                    rw [← hlx] at hc0 hs1 hrd
                    have hmx := List.mem_of_getElem? hx
                    have hne : 0 < xs.length := by
                      have h1 := List.all_eq_true.1 HLA.out _ hmx
                      unfold longB at h1
                      rw [Bool.and_eq_true, decide_eq_true_iff, decide_eq_true_iff] at h1
                      exact h1.1
                    have hcb := List.all_eq_true.1 HCA.out _ hmx
                    have hia : (0 : Int) ≤ (i : Int) := by omega
                    have hib : (i : Int) < (n : Int) := by omega
                    have hit : (i : Int).toNat = i := by omega
                    obtain ⟨L, hL⟩ : ∃ L, L = sidL W H (xs, o) := ⟨_, rfl⟩
                    obtain ⟨U, hU⟩ : ∃ U, U = (ls.take i).flatMap (sidL W H) := ⟨_, rfl⟩
                    have HUL := Lib.hid (show (ls.take (i + 1)).flatMap (sidL W H) = U ++ L from by rw [take_snoc hx, List.flatMap_append, hU, hL]; simp)
                    have HUB := Lib.hid (show ∀ y ∈ U ++ L, ∃ c : Nat, c < 256 ∧ y = (c : Int) from fun y hy => by
                      rw [← HUL.out] at hy
                      obtain ⟨z, hz, hyz⟩ := List.mem_flatMap.1 hy
                      exact HLT.out z (List.mem_of_mem_take hz) y hyz)
                    have HSUB := Lib.hid (show (U ++ L).Sublist (ls.flatMap (sidL W H)) from by
                      rw [← HUL.out]
                      exact flat_take_sub _ _ _)
                    rw [← hU] at hO hN
                    have hll : L.length ≤ 65 := by
                      rw [hL]
                      have h1 := List.all_eq_true.1 HLA.out _ hmx
                      unfold longB at h1
                      rw [Bool.and_eq_true, decide_eq_true_iff, decide_eq_true_iff] at h1
                      exact sidL_len h1.2
                    have HSD := Lib.hid (show ∀ X : World, Ext wr X → Calls Tryz.prog 63 #[.agg #[.int .i64 (W : Int), .int .i64 (H : Int), .slice aw nw cw, .slice ak nk ck], .agg #[.slice sa lx sc, .int .i64 o]] X fun e w' => ∃ u, e = .returned u ∧ OwnI 3 X.heap.size w' u L ∧ Ext X w' from fun X h => by
                      rw [hL]
                      unfold cellsB at hcb
                      rw [Bool.and_eq_true, Bool.and_eq_true, decide_eq_true_iff, decide_eq_true_iff, inn_mem] at hcb
                      exact rsides_c W H nw cw nk ck aw ak xs o _ X hW hH (hrd.ext h) hne (fun y hy => by have := hcb.1 y hy; omega) hcb.2)
                    have HE := hE; have HO := hO
                    clear hx hlx hrd hs1 hmx hne hcb hL hU
                    obtain ⟨ll, hlle⟩ : ∃ ll, ll = L.length := ⟨_, rfl⟩
                    rw [← hlle] at hll
                    have HLL := Lib.hid hlle
                    clear hlle
                    go_upto_region 29 with fail
                    refine wp_region_order ((fun Y : World => Y.heap[w.heap.size]? = some (.cells #[.int .i64 (W : Int), .int .i64 (H : Int), .slice aw nw cw, .slice ak nk ck] 24 (0, 0)) ∧ Y.cell? ⟨b, off + i * 2, none⟩ = some (.slice sa lx sc) ∧ Y.cell? ⟨b, off + i * 2 + 1, none⟩ = some (.int .i64 o))) [0, 1, 2, 3, 4, 5, 6] (by kernel_rfl) (by kernel_rfl) (by exact ⟨hp.out, hc0, hc1⟩) (fun hHeld => ?_)
                    simp only [opsIn, List.filterMap_cons, List.filterMap_nil, List.getElem?_toArray, List.getElem?_cons_succ, List.getElem?_cons_zero]
                    refine' text_chunk 5 (by kernel_rfl) hHeld ?ck7 ?cr7
                    case ck7 =>
                      intro W hSw
                      have hSW := hSw
                      try dsimp only at hSW
                      clear hSw
                      obtain ⟨s1, s2, s3⟩ := hSW
                      obtain ⟨z0, z1, z2, z3⟩ := cells4 s1
                      clear s1
                      simp only [List.take_succ_cons, List.take_zero, List.drop_succ_cons, List.drop_zero]
                      repeat (go_big_quiet_step (fail))
                      exact wpQuiet_nil rfl
                    simp only [List.take_succ_cons, List.take_zero, List.drop_succ_cons, List.drop_zero]
                    refine text_call (by rfl) (by rfl) (fun K hK => ?_)
                    go_simp
                    refine Calls.mono (HSD.out _ ((Ext.refl _).drew)) ?_
                    intro e Y5 h1; obtain ⟨lv, h1, hOL, hE5⟩ := h1; subst h1
                    have HD5 := Lib.hid hE5; have HL5 := Lib.hid hOL
                    clear hE5 hOL
                    all_goals (try (go_wp2_with fail))
                    refine hK.out _ _ (by exact ⟨block_ext HD5.out hHeld.1, cell_ext HD5.out hHeld.2.1, cell_ext HD5.out hHeld.2.2⟩) (fun hHeld => ?_)
                    clear hK K
                    try simp only [Act.put, List.setIfInBounds_toArray, List.set_cons_zero, List.set_cons_succ]
                    refine' text_chunk 1 (by kernel_rfl) hHeld ?ck8 ?cr8
                    case ck8 =>
                      intro W hSw
                      have hSW := hSw
                      try dsimp only at hSW
                      clear hSw
                      skip
                      simp only [List.take_succ_cons, List.take_zero, List.drop_succ_cons, List.drop_zero]
                      repeat (go_big_quiet_step (fail))
                      exact wpQuiet_nil rfl
                    simp only [List.take_succ_cons, List.take_zero, List.drop_succ_cons, List.drop_zero]
                    refine text_done ?_
                    have HP5 := Lib.hid hHeld.1
                    have HE5 := Lib.hid (HE.out.drew.trans HD5.out)
                    have HO5 := Lib.hid ((HO.out.ext (Ext.refl _).drew).ext HD5.out)
                    have HNE5 := Lib.hid (show ∀ g, lv.ownBlock = some g → u10.ownBlock ≠ some g from fun g h1 h2 => by
                      have h3 := (World.ownsRow.lt HL5.out g h1).1
                      have h4 := (World.ownsRow.lt HO.out g h2).2
                      simp at h3
                      omega)
                    clear hHeld HD5 hc0 hc1
                    obtain ⟨Bl, hBl⟩ : ∃ Bl, Bl = wr.drew.heap.size := ⟨_, rfl⟩
                    rw [← hBl] at HL5
                    clear hBl
                    obtain ⟨la, lc, rfl, hlc⟩ := HL5.out.shape
                    rw [← HLL.out] at HL5 HNE5 hlc ⊢
                    go_wp2
                    go_loopw [10, 13] (fun u j wr => ∃ k : Nat, k ≤ ll ∧ j = .int .i64 (k : Int) ∧ Hid (OwnI 3 (w.heap.size + 1) wr u (U ++ L.take k)) ∧ Hid ((U ++ L.take k).Nodup) ∧ Hid (OwnI 3 Bl wr (.slice la ll lc) L) ∧ Hid (∀ g, (Value.slice la ll lc).ownBlock = some g → u.ownBlock ≠ some g) ∧ Hid (wr.heap[w.heap.size]? = some (.cells #[.int .i64 (W : Int), .int .i64 (H : Int), .slice aw nw cw, .slice ak nk ck] 24 (0, 0))) ∧ Hid (Ext w wr)) (fun u j wr => ll - (intOf j).toNat)
                    case atStart => exact ⟨0, Nat.zero_le _, rfl, by rw [List.take_zero, List.append_nil]; exact HO5, by rw [List.take_zero, List.append_nil]; exact hN, HL5, HNE5, HP5, HE5⟩
                    case round =>
                      clear HO5 hN HL5 HNE5 HP5 HE5 hO hp hE HO HE
                      obtain ⟨k, hk, rfl, hO, hN, hOL, hNE, hp, hE⟩ := hrel
                      by_cases hlk : k < ll
                      · obtain ⟨b2, off2, y, rfl, hy, hcy⟩ := (hOL.out.reads (by have := HLL.out; omega)).at (show k < L.length by have := HLL.out; omega)
                        obtain ⟨ua, uc, rfl, huc⟩ := hO.out.shape
                        obtain ⟨V, hV⟩ : ∃ V, V = U ++ L.take k := ⟨_, rfl⟩
                        have HV1 := Lib.hid (show U ++ L.take (k + 1) = V ++ [y] from by rw [take_snoc hy, hV, List.append_assoc])
                        have HVS := Lib.hid (show (V ++ [y]).Sublist (ls.flatMap (sidL W H)) from by
                          rw [← HV1.out]
                          exact ((List.take_sublist _ _).append_left _).trans HSUB.out)
                        rw [← hV] at hO hN huc hNE ⊢
                        have hv256 : V.length ≤ 256 := names_len hN.out fun z hz => HUB.out z (by rw [hV] at hz; exact ((List.take_sublist _ _).append_left _).subset hz)
                        obtain ⟨vl, hvl⟩ : ∃ vl, vl = V.length := ⟨_, rfl⟩
                        rw [← hvl] at hO hv256 huc hNE ⊢
                        have HQ := Lib.hid (has_c (.slice ua vl uc) V y wr (hO.out.reads (by omega)))
                        have hka : (0 : Int) ≤ (k : Int) := by omega
                        have hkb : (k : Int) < (ll : Int) := by omega
                        have hkt : (k : Int).toNat = k := by omega
                        by_cases hq : y ∈ V
                        · have HQ := Lib.hid (show Calls Tryz.prog 30 #[.slice ua vl uc, .int .i64 y] wr fun e w' => e = .returned (.bool true) ∧ wr = w' from by
                            have h1 := HQ.out
                            unfold hasB at h1
                            rw [decide_eq_true hq] at h1
                            exact h1)
                          have HVV := Lib.hid (show r = 11 from by
                            rw [HR5.out, if_pos]
                            rw [HAP.out, decide_eq_false_iff_not]
                            intro h1
                            have h2 := h1.sublist HVS.out
                            rw [List.nodup_append] at h2
                            exact h2.2.2 y hq y (by simp) rfl)
                          clear hy hV hvl
                          go_wp2_with (first | (go_at_call 30; refine Calls.mono HQ.out ?_; intro e Y h1; obtain ⟨h1, hY⟩ := h1; subst h1; subst hY) | fail)
                          refine bodyPost_ret (by first | (simp [results, Tryz.results25, go_sem]; done) | (simp [results, Tryz.results25, go_sem]; rfl)) rfl ?_
                          refine ⟨?_, hE.out⟩
                          rw [HCNT.out, HVV.out]; rfl
                        · have HQ := Lib.hid (show Calls Tryz.prog 30 #[.slice ua vl uc, .int .i64 y] wr fun e w' => e = .returned (.bool false) ∧ wr = w' from by
                            have h1 := HQ.out
                            unfold hasB at h1
                            rw [decide_eq_false hq] at h1
                            exact h1)
                          have HN1 := Lib.hid (show (U ++ L.take (k + 1)).Nodup from by
                            rw [HV1.out, List.nodup_append]
                            exact ⟨hN.out, by simp, fun a ha b hb e => hq (by rw [List.mem_singleton] at hb; rw [← hb, ← e]; exact ha)⟩)
                          obtain ⟨W3, hW3⟩ : ∃ W3, W3 = wr.alloc (.cells #[.int .i64 y] 3) := ⟨_, rfl⟩
                          have hE3 : Ext wr W3 := by rw [hW3]; exact (Ext.refl _).alloc _
                          have hz3 : W3.cell? ⟨wr.heap.size, 0, none⟩ = some (.int .i64 y) := cell_of_blk (by rw [hW3]; exact heap_alloc_new wr _) rfl
                          obtain ⟨v4, X4, hrun, ho4, hg4, hn4⟩ := appendI_run2 (hO.out.ext hE3) (by have := lt_of_blk hp.out; have := hE3.size; omega) (by omega) y wr.heap.size hz3 22
                          have hob := own_from (hO.out.ext hE3)
                          have HO4 := Lib.hid (show OwnI 3 (w.heap.size + 1) X4 v4 (U ++ L.take (k + 1)) from by rw [HV1.out]; exact ho4)
                          have HL4 := Lib.hid (show OwnI 3 Bl X4 (.slice (some ⟨b2, off2, none⟩) ll lc) L from World.ownsRow.kept (hOL.out.ext hE3) hg4 (by
                            cases e : (Value.slice (some ⟨b2, off2, none⟩) ll lc).ownBlock with
                            | none => exact .inl rfl
                            | some g => exact .inr fun h => hNE.out g e h.symm))
                          have HNE4 := Lib.hid (show ∀ g, (Value.slice (some ⟨b2, off2, none⟩) ll lc).ownBlock = some g → v4.ownBlock ≠ some g from fun g h1 => hn4 g (by have := (World.ownsRow.lt hOL.out g h1).2; have := hE3.size; omega) (hNE.out g h1))
                          have HB4 := Lib.hid ((hg4.block w.heap.size (lt_of_blk (block_ext hE3 hp.out)) (fun e => by have := hob _ e.symm; omega)).trans (block_ext hE3 hp.out))
                          have HE4 := Lib.hid (show Ext w X4 from grown_any (hE.out.trans hE3) hg4 (fun g e => by have := hob g e; omega))
                          rw [hW3] at hrun
                          clear hE3 hz3 ho4 hg4 hn4 hob hW3 hy hV hvl
                          go_wp2_with (first | (go_at_call 30; refine Calls.mono HQ.out ?_; intro e Y h1; obtain ⟨h1, hY⟩ := h1; subst h1; subst hY) | (refine wpList_append_run rfl _ _ 22 rfl rfl rfl hrun ?_) | fail)
                          go_roundw
                          case rel => exact ⟨k + 1, by omega, by go_num, HO4, HN1, HL4, HNE4, HB4, HE4⟩
                          case measure => simp [intOf]; omega
                      · obtain rfl : k = ll := by omega
                        have hLe : L.take k = L := List.take_of_length_le (by have := HLL.out; omega)
                        rw [hLe, ← HUL.out] at hO hN
                        clear hLe
                        go_wp2
                        go_roundw
                        case rel => exact ⟨i + 1, by omega, by go_num, hO, hN, hp, hE⟩
                        case measure => simp [intOf]; omega
                  · obtain rfl : n = i := by omega
                    have HVV := Lib.hid (show r = 0 from by
                      have h1 := hN.out
                      rw [List.take_of_length_le (by have := HN.out; omega)] at h1
                      rw [HR5.out, HAP.out, decide_eq_true h1]; rfl)
                    go_wp2
                    refine bodyPost_ret (by first | (simp [results, Tryz.results25, go_sem]; done) | (simp [results, Tryz.results25, go_sem]; rfl)) rfl ?_
                    refine ⟨?_, hE.out⟩
                    rw [HCNT.out, HVV.out, if_pos rfl]
end Go.Proofs.YtppjnpempgpkaaaGreat
