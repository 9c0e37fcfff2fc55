/- The reference's CheckStem. -/
import Derived.Test.YtcgheakadfjofaaC1
import Derived.Test.YtcgheakadfjofaaB7
import Derived.Deep.LoopGhost
import Derived.Deep.RegionWith
namespace Go.Proofs.Ytcgheakadfjofaa
open Go.RowKit
set_option linter.unusedVariables false
set_option linter.unusedSimpArgs false
set_option maxRecDepth 100000 in
set_option maxHeartbeats 4000000 in
theorem refstem21 (vt vb : Value) (th bd : List Int) (w : World) (ht : Reads w vt th) (hd : Reads w vb bd) :
    Calls Try.prog 21 #[.agg #[vt, vb]] w fun e w' => e = .returned (.int .i64 (stemE th bd)) ∧ Ext w w' := by
  obtain ⟨hl, a, cap, rfl⟩ := ht.shape
  obtain ⟨hl', a', cap', rfl⟩ := hd.shape
  obtain ⟨n, hn⟩ : ∃ n, n = th.length := ⟨_, rfl⟩
  obtain ⟨nb, hn'⟩ : ∃ n', n' = bd.length := ⟨_, rfl⟩
  rw [← hn] at ht hl ⊢
  rw [← hn'] at hd hl' ⊢
  have hR := show stemE th bd = if th.length < 2 ∨ 61 < th.length then 6 else if inn 0 60 th = false then 3 else if down th = false then 16
    else if inn 0 ((th.length : Int) - 2) bd = false ∨ up bd = false then 2 else 0 from rfl
  generalize stemE th bd = res at *
  rw [← hn] at hR
  have HR := Lib.hid hR
  have E0 := Lib.hid ((Ext.refl w).alloc (.cells #[.slice a n cap, .slice a' nb cap'] 25))
  have P0 := Lib.hid (StemAt.new w (.slice a n cap) (.slice a' nb cap') 25)
  have HT := Lib.hid (ht.ext E0.out); have HD := Lib.hid (hd.ext E0.out)
  have HN := Lib.hid hn; have HN' := Lib.hid hn'
  clear ht hd hn hn' hR
  have ⟨s0, s1⟩ := P0.out
  by_cases hs : n < 2
  · have hre := Lib.hid (show res = 6 from by rw [HR.out, if_pos (.inl hs)])
    have hs1 : decide ((n : Int) < 2) = true := by simp; omega
    clear HR
    go_enter Try.func21, Try.ntmps21
    go_wp2
    go_ret
    exact ⟨by rw [hre.out]; rfl, E0.out⟩
  have hs1 : decide ((n : Int) < 2) = false := by simp; omega
  by_cases hb : 61 < n
  · have hre := Lib.hid (show res = 6 from by rw [HR.out, if_pos (.inr hb)])
    have hb1 : decide (61 < (n : Int)) = true := by simp; omega
    clear HR
    go_enter Try.func21, Try.ntmps21
    go_wp2
    go_ret
    exact ⟨by rw [hre.out]; rfl, E0.out⟩
  have hb1 : decide (61 < (n : Int)) = false := by simp; omega
  have HR1 := Lib.hid (show res = if inn 0 60 th = false then 3 else if down th = false then 16
    else if inn 0 ((n : Int) - 2) bd = false ∨ up bd = false then 2 else 0 from by rw [HR.out, if_neg (by omega)])
  have hn2 : 2 ≤ n := by omega
  have hn61 : n ≤ 61 := by omega
  clear HR hs hb
  go_enter Try.func21, Try.ntmps21
  go_wp2_with fail
  clear hs1 hb1
  go_loopw [3] (fun i wr => ∃ k : Nat, k ≤ n ∧ i = .int .i64 (k : Int) ∧ Hid (Ext (w.alloc (.cells #[.slice a n cap, .slice a' nb cap'] 25)) wr) ∧ Hid (inn 0 60 (th.take k) = true)) (fun i wr => n - (intOf i).toNat)
  case atStart => exact ⟨0, Nat.zero_le _, rfl, Lib.hid (Ext.refl _), Lib.hid (by simp [inn])⟩
  case round =>
    obtain ⟨k, hk, rfl, hE, hI⟩ := hrel
    have ⟨s0, s1⟩ := P0.out.ext hE.out
    by_cases hlt : k < n
    · obtain ⟨b, off, x, rfl, hx, hcx⟩ := (HT.out.ext hE.out).at (show k < th.length by rw [← HN.out]; exact hlt)
      have hka : (0 : Int) ≤ (k : Int) := by omega
      have hkb : (k : Int) < (n : Int) := by omega
      have ht2 : (k : Int).toNat = k := by omega
      have HS := Lib.hid (inn_snoc 0 60 th k x hx)
      have HX := Lib.hid hx
      clear hx
      have h60 := Lib.hid (refwithin60 x 0 60 wr)
      cases hin : (decide (0 ≤ x) && decide (x ≤ 60))
      · rw [hin] at h60
        have hre := Lib.hid (show res = 3 from by
          rw [HR1.out, if_pos]
          apply inn_false 0 60 th k x HX.out
          simp at hin; omega)
        clear hin HR1
        go_wp2_with fail
        refine (h60.out).mono ?_
        rintro e w2 ⟨rfl, rfl⟩
        go_wp2
        go_ret
        exact ⟨by rw [hre.out]; rfl, E0.out.trans hE.out⟩
      · rw [hin] at h60 HS
        have hin2 := Lib.hid (show inn 0 60 (th.take (k + 1)) = true from by rw [HS.out, hI.out]; rfl)
        clear hin HS
        go_wp2_with fail
        refine (h60.out).mono ?_
        rintro e w2 ⟨rfl, rfl⟩
        go_wp2
        go_roundw
        case rel => exact ⟨k + 1, by omega, by go_num, hE, hin2⟩
        case measure => simp [intOf]; omega
    · have hkb : ¬ (k : Int) < (n : Int) := by omega
      have HR2 := Lib.hid (show res = if down th = false then 16 else if inn 0 ((n : Int) - 2) bd = false ∨ up bd = false then 2 else 0 from by
        have h1 := hI.out
        rw [List.take_of_length_le (by rw [← HN.out]; omega)] at h1
        rw [HR1.out, if_neg (by rw [h1]; simp)])
      clear HR1 hI
      go_wp2_with fail
      go_loopw [4] (fun i wr => ∃ k : Nat, k + 1 ≤ n ∧ i = .int .i64 ((k : Int) + 1) ∧ Hid (Ext (w.alloc (.cells #[.slice a n cap, .slice a' nb cap'] 25)) wr) ∧ Hid (down (th.take (k + 1)) = true)) (fun i wr => n + 1 - (intOf i).toNat)
      case atStart => exact ⟨0, by omega, rfl, hE, Lib.hid (by cases th <;> simp [down])⟩
      case round =>
        clear hkb s0 s1
        obtain ⟨k, hk, rfl, hE, hI⟩ := hrel
        have ⟨s0, s1⟩ := P0.out.ext hE.out
        by_cases hlt : k + 1 < n
        · obtain ⟨b, off, y, rfl, hy, hcy⟩ := (HT.out.ext hE.out).at (show k + 1 < th.length by rw [← HN.out]; exact hlt)
          obtain ⟨b', off', x, hbx, hx, hcx⟩ := (HT.out.ext hE.out).at (show k < th.length by rw [← HN.out]; omega)
          cases hbx
          have hs := down_take_succ th k x y hx hy
          rw [hI.out, Bool.true_and] at hs
          have HS := Lib.hid hs
          clear hx hy hs
          have hka : (0 : Int) ≤ (k : Int) + 1 := by omega
          have hkb : (k : Int) + 1 < (n : Int) := by omega
          have hkc : (0 : Int) ≤ (k : Int) := by omega
          have hkd : (k : Int) < (n : Int) := by omega
          have hw1 : IntKind.i64.wrap ((k : Int) + 1 - 1) = (k : Int) := by rw [show (k : Int) + 1 - 1 = k from by omega]; exact wrapi64 _ (by omega) (by omega)
          have ht : ((k : Int) + 1).toNat = k + 1 := by omega
          have ht2 : (k : Int).toNat = k := by omega
          by_cases hxy : x < y
          · have hd : decide (x < y) = true := by simp; omega
            have hre := Lib.hid (show res = 16 from by
              rw [HR2.out, if_pos]
              cases e : down th with
              | false => rfl
              | true =>
                have h1 := down_prefix th (k + 2) e
                rw [HS.out] at h1
                simp at h1; omega)
            clear HR2
            go_wp2
            go_quiet (fail)
            go_wp2
            go_ret
            exact ⟨by rw [hre.out]; rfl, (E0.out.trans hE.out).drewN _⟩
          · have hd : decide (x < y) = false := by simp; omega
            have hdn := Lib.hid (show down (th.take (k + 1 + 1)) = true from by rw [show k + 1 + 1 = k + 2 from rfl, HS.out]; simp; omega)
            go_wp2
            go_quiet (fail)
            go_wp2
            go_roundw
            case rel => exact ⟨k + 1, by omega, by go_num, Lib.hid (hE.out.drewN _), hdn⟩
            case measure => simp [intOf]; omega
        · have hkb : ¬ (k : Int) + 1 < (n : Int) := by omega
          have HR3 := Lib.hid (show res = if inn 0 ((n : Int) - 2) bd = false ∨ up bd = false then 2 else 0 from by
            have h1 := hI.out
            rw [List.take_of_length_le (by rw [← HN.out]; omega)] at h1
            rw [HR2.out, if_neg (by rw [h1]; simp)])
          clear HR2 hI
          go_wp2_with fail
          go_loopw [5] (fun i wr => ∃ k : Nat, k ≤ nb ∧ i = .int .i64 (k : Int) ∧ Hid (Ext (w.alloc (.cells #[.slice a n cap, .slice a' nb cap'] 25)) wr) ∧ Hid (inn 0 ((n : Int) - 2) (bd.take k) = true) ∧ Hid (up (bd.take k) = true)) (fun i wr => nb - (intOf i).toNat)
          case atStart => exact ⟨0, Nat.zero_le _, rfl, hE, Lib.hid (by simp [inn]), Lib.hid (by simp [up])⟩
          case round =>
            obtain ⟨k, hk, rfl, hE1, hI, hU⟩ := hrel
            have ⟨q0, q1⟩ := P0.out.ext hE1.out
            by_cases hlt : k < nb
            · obtain ⟨bb, off, x, rfl, hx, hcx⟩ := (HD.out.ext hE1.out).at (show k < bd.length by rw [← HN'.out]; exact hlt)
              have hka : (0 : Int) ≤ (k : Int) := by omega
              have hkb : (k : Int) < (nb : Int) := by omega
              have ht2 : (k : Int).toNat = k := by omega
              have HX := Lib.hid hx
              clear hx
              by_cases h1 : x < 0
              · have d1 : decide (x < 0) = true := decide_eq_true h1
                have hre := Lib.hid (show res = 2 from by rw [HR3.out, if_pos (.inl (inn_false _ _ _ _ _ HX.out (.inl h1)))])
                clear HR3 h1
                have HKP := Lib.hid (show ∀ X X' : World, (fun X : World => X.cell? ⟨w.heap.size, 0, none⟩ = some (.slice a n cap) ∧ X.cell? ⟨w.heap.size, 1, none⟩ = some (.slice (some ⟨bb, off, none⟩) nb cap') ∧ X.cell? ⟨bb, off + k, none⟩ = some (.int .i64 x) ∧ Hid (Ext (w.alloc (.cells #[.slice a n cap, .slice (some ⟨bb, off, none⟩) nb cap'] 25)) X)) X → Ext X X' → (fun X : World => X.cell? ⟨w.heap.size, 0, none⟩ = some (.slice a n cap) ∧ X.cell? ⟨w.heap.size, 1, none⟩ = some (.slice (some ⟨bb, off, none⟩) nb cap') ∧ X.cell? ⟨bb, off + k, none⟩ = some (.int .i64 x) ∧ Hid (Ext (w.alloc (.cells #[.slice a n cap, .slice (some ⟨bb, off, none⟩) nb cap'] 25)) X)) X' from fun X X' h hb => ⟨cell_ext hb h.1, cell_ext hb h.2.1, cell_ext hb h.2.2.1, Lib.hid (Ext.trans h.2.2.2.out hb)⟩)
                go_wp2
                refine wp_region_order (fun X : World => X.cell? ⟨w.heap.size, 0, none⟩ = some (.slice a n cap) ∧ X.cell? ⟨w.heap.size, 1, none⟩ = some (.slice (some ⟨bb, off, none⟩) nb cap') ∧ X.cell? ⟨bb, off + k, none⟩ = some (.int .i64 x) ∧ Hid (Ext (w.alloc (.cells #[.slice a n cap, .slice (some ⟨bb, off, none⟩) nb cap'] 25)) X)) [0, 1, 2, 3, 4, 5, 6, 7, 8, 9, 10, 11, 12, 13, 14, 15, 16, 17, 18, 19, 20, 21, 22, 23, 24, 25, 26, 27, 28, 29, 30, 31, 32, 33] (by kernel_rfl) (by kernel_rfl) (by exact ⟨q0, q1, hcx, Lib.hid hE1.out.drew⟩) (fun hHeld => ?_)
                simp only [opsIn, List.filterMap_cons, List.filterMap_nil, List.getElem?_toArray, List.getElem?_cons_succ, List.getElem?_cons_zero]
                refine' text_chunk 13 (by kernel_rfl) hHeld ?ck1 ?cr1
                case ck1 =>
                  intro W hSw
                  have hSW := hSw
                  try dsimp only at hSW
                  clear hSw
                  simp only [List.take_succ_cons, List.take_zero, List.drop_succ_cons, List.drop_zero]
                  repeat (go_big_quiet_step (fail))
                  exact wpQuiet_nil rfl
                simp only [List.take_succ_cons, List.take_zero, List.drop_succ_cons, List.drop_zero]
                refine text_skip (by rfl) ?_
                try simp only [Act.put, List.setIfInBounds_toArray, List.set_cons_zero, List.set_cons_succ]
                refine' text_chunk 20 (by kernel_rfl) hHeld ?ck2 ?cr2
                case ck2 =>
                  intro W hSw
                  have hSW := hSw
                  try dsimp only at hSW
                  clear hSw
                  simp only [List.take_succ_cons, List.take_zero, List.drop_succ_cons, List.drop_zero]
                  repeat (go_big_quiet_step (fail))
                  exact wpQuiet_nil rfl
                simp only [List.take_succ_cons, List.take_zero, List.drop_succ_cons, List.drop_zero]
                refine text_done ?_
                have HL := hHeld.2.2.2
                clear hHeld
                go_wp2
                go_ret
                exact ⟨by rw [hre.out]; rfl, E0.out.trans HL.out⟩
              have d1 : decide (x < 0) = false := decide_eq_false h1
              by_cases h2 : (n : Int) - 1 ≤ x
              · have d2 : decide ((n : Int) - 1 ≤ x) = true := decide_eq_true h2
                have hre := Lib.hid (show res = 2 from by rw [HR3.out, if_pos (.inl (inn_false _ _ _ _ _ HX.out (.inr (by omega))))])
                clear HR3 h1 h2
                have HKP := Lib.hid (show ∀ X X' : World, (fun X : World => X.cell? ⟨w.heap.size, 0, none⟩ = some (.slice a n cap) ∧ X.cell? ⟨w.heap.size, 1, none⟩ = some (.slice (some ⟨bb, off, none⟩) nb cap') ∧ X.cell? ⟨bb, off + k, none⟩ = some (.int .i64 x) ∧ Hid (Ext (w.alloc (.cells #[.slice a n cap, .slice (some ⟨bb, off, none⟩) nb cap'] 25)) X)) X → Ext X X' → (fun X : World => X.cell? ⟨w.heap.size, 0, none⟩ = some (.slice a n cap) ∧ X.cell? ⟨w.heap.size, 1, none⟩ = some (.slice (some ⟨bb, off, none⟩) nb cap') ∧ X.cell? ⟨bb, off + k, none⟩ = some (.int .i64 x) ∧ Hid (Ext (w.alloc (.cells #[.slice a n cap, .slice (some ⟨bb, off, none⟩) nb cap'] 25)) X)) X' from fun X X' h hb => ⟨cell_ext hb h.1, cell_ext hb h.2.1, cell_ext hb h.2.2.1, Lib.hid (Ext.trans h.2.2.2.out hb)⟩)
                go_wp2
                refine wp_region_order (fun X : World => X.cell? ⟨w.heap.size, 0, none⟩ = some (.slice a n cap) ∧ X.cell? ⟨w.heap.size, 1, none⟩ = some (.slice (some ⟨bb, off, none⟩) nb cap') ∧ X.cell? ⟨bb, off + k, none⟩ = some (.int .i64 x) ∧ Hid (Ext (w.alloc (.cells #[.slice a n cap, .slice (some ⟨bb, off, none⟩) nb cap'] 25)) X)) [0, 1, 2, 3, 4, 5, 6, 7, 8, 9, 10, 11, 12, 13, 14, 15, 16, 17, 18, 19, 20, 21, 22, 23, 24, 25, 26, 27, 28, 29, 30, 31, 32, 33] (by kernel_rfl) (by kernel_rfl) (by exact ⟨q0, q1, hcx, Lib.hid hE1.out.drew⟩) (fun hHeld => ?_)
                simp only [opsIn, List.filterMap_cons, List.filterMap_nil, List.getElem?_toArray, List.getElem?_cons_succ, List.getElem?_cons_zero]
                refine' text_chunk 13 (by kernel_rfl) hHeld ?ck3 ?cr3
                case ck3 =>
                  intro W hSw
                  have hSW := hSw
                  try dsimp only at hSW
                  clear hSw
                  simp only [List.take_succ_cons, List.take_zero, List.drop_succ_cons, List.drop_zero]
                  repeat (go_big_quiet_step (fail))
                  exact wpQuiet_nil rfl
                simp only [List.take_succ_cons, List.take_zero, List.drop_succ_cons, List.drop_zero]
                refine text_call (by rfl) (by rfl) (fun K hK => ?_)
                go_simp
                (go_at_call 43; refine (long43 a n cap _ _ (by omega)).mono ?_; rintro e w5 ⟨rfl, hb⟩)
                all_goals (try (go_wp2_with fail))
                refine hK.out _ _ (by exact HKP.out _ _ hHeld hb) (fun hHeld => ?_)
                clear hK K
                try simp only [Act.put, List.setIfInBounds_toArray, List.set_cons_zero, List.set_cons_succ]
                refine' text_chunk 20 (by kernel_rfl) hHeld ?ck4 ?cr4
                case ck4 =>
                  intro W hSw
                  have hSW := hSw
                  try dsimp only at hSW
                  clear hSw
                  simp only [List.take_succ_cons, List.take_zero, List.drop_succ_cons, List.drop_zero]
                  repeat (go_big_quiet_step (fail))
                  exact wpQuiet_nil rfl
                simp only [List.take_succ_cons, List.take_zero, List.drop_succ_cons, List.drop_zero]
                refine text_done ?_
                have HL := hHeld.2.2.2
                clear hHeld
                go_wp2
                go_ret
                exact ⟨by rw [hre.out]; rfl, E0.out.trans HL.out⟩
              have d2 : decide ((n : Int) - 1 ≤ x) = false := decide_eq_false h2
              have hin := Lib.hid (show inn 0 ((n : Int) - 2) (bd.take (k + 1)) = true from by
                rw [inn_snoc _ _ _ _ _ HX.out, hI.out]; simp; omega)
              by_cases h3 : 0 < k
              · have d3 : decide (0 < (k : Int)) = true := by simp; omega
                have d3' : decide (0 < k) = true := by simp; omega
                obtain ⟨b9, off9, y, hb9, hy, hcy⟩ := (HD.out.ext hE1.out).at (show k - 1 < bd.length by rw [← HN'.out]; omega)
                cases hb9
                have hw1 : IntKind.i64.wrap ((k : Int) - 1) = (k : Int) - 1 := wrapi64 _ (by omega) (by omega)
                have hkc : (0 : Int) ≤ (k : Int) - 1 := by omega
                have hkd : (k : Int) - 1 < (nb : Int) := by omega
                have ht3 : ((k : Int) - 1).toNat = k - 1 := by omega
                have hq := up_take_succ bd (k - 1) y x hy (by rw [show k - 1 + 1 = k by omega]; exact HX.out)
                rw [show k - 1 + 2 = k + 1 by omega, show k - 1 + 1 = k by omega, hU.out, Bool.true_and] at hq
                have HQ := Lib.hid hq
                clear hy hq
                by_cases h4 : x ≤ y
                · have d4 : decide (x ≤ y) = true := decide_eq_true h4
                  have hre := Lib.hid (show res = 2 from by
                    rw [HR3.out, if_pos]
                    right
                    cases e : up bd with
                    | false => rfl
                    | true =>
                      have h5 := up_prefix bd (k + 1) e
                      rw [HQ.out] at h5
                      simp at h5; omega)
                  clear HR3 h1 h2 h4
                  have HKP := Lib.hid (show ∀ X X' : World, (fun X : World => X.cell? ⟨w.heap.size, 0, none⟩ = some (.slice a n cap) ∧ X.cell? ⟨w.heap.size, 1, none⟩ = some (.slice (some ⟨bb, off, none⟩) nb cap') ∧ X.cell? ⟨bb, off + k, none⟩ = some (.int .i64 x) ∧ X.cell? ⟨bb, off + (k - 1), none⟩ = some (.int .i64 y) ∧ Hid (Ext (w.alloc (.cells #[.slice a n cap, .slice (some ⟨bb, off, none⟩) nb cap'] 25)) X)) X → Ext X X' → (fun X : World => X.cell? ⟨w.heap.size, 0, none⟩ = some (.slice a n cap) ∧ X.cell? ⟨w.heap.size, 1, none⟩ = some (.slice (some ⟨bb, off, none⟩) nb cap') ∧ X.cell? ⟨bb, off + k, none⟩ = some (.int .i64 x) ∧ X.cell? ⟨bb, off + (k - 1), none⟩ = some (.int .i64 y) ∧ Hid (Ext (w.alloc (.cells #[.slice a n cap, .slice (some ⟨bb, off, none⟩) nb cap'] 25)) X)) X' from fun X X' h hb => ⟨cell_ext hb h.1, cell_ext hb h.2.1, cell_ext hb h.2.2.1, cell_ext hb h.2.2.2.1, Lib.hid (Ext.trans h.2.2.2.2.out hb)⟩)
                  go_wp2
                  refine wp_region_order (fun X : World => X.cell? ⟨w.heap.size, 0, none⟩ = some (.slice a n cap) ∧ X.cell? ⟨w.heap.size, 1, none⟩ = some (.slice (some ⟨bb, off, none⟩) nb cap') ∧ X.cell? ⟨bb, off + k, none⟩ = some (.int .i64 x) ∧ X.cell? ⟨bb, off + (k - 1), none⟩ = some (.int .i64 y) ∧ Hid (Ext (w.alloc (.cells #[.slice a n cap, .slice (some ⟨bb, off, none⟩) nb cap'] 25)) X)) [0, 1, 2, 3, 4, 5, 6, 7, 8, 9, 10, 11, 12, 13, 14, 15, 16, 17, 18, 19, 20, 21, 22, 23, 24, 25, 26, 27, 28, 29, 30, 31, 32, 33] (by kernel_rfl) (by kernel_rfl) (by exact ⟨q0, q1, hcx, hcy, Lib.hid hE1.out.drew⟩) (fun hHeld => ?_)
                  simp only [opsIn, List.filterMap_cons, List.filterMap_nil, List.getElem?_toArray, List.getElem?_cons_succ, List.getElem?_cons_zero]
                  refine' text_chunk 13 (by kernel_rfl) hHeld ?ck5 ?cr5
                  case ck5 =>
                    intro W hSw
                    have hSW := hSw
                    try dsimp only at hSW
                    clear hSw
                    simp only [List.take_succ_cons, List.take_zero, List.drop_succ_cons, List.drop_zero]
                    repeat (go_big_quiet_step (fail))
                    exact wpQuiet_nil rfl
                  simp only [List.take_succ_cons, List.take_zero, List.drop_succ_cons, List.drop_zero]
                  refine text_call (by rfl) (by rfl) (fun K hK => ?_)
                  go_simp
                  (go_at_call 43; refine (long43 a n cap _ _ (by omega)).mono ?_; rintro e w5 ⟨rfl, hb⟩)
                  all_goals (try (go_wp2_with fail))
                  refine hK.out _ _ (by exact HKP.out _ _ hHeld hb) (fun hHeld => ?_)
                  clear hK K
                  try simp only [Act.put, List.setIfInBounds_toArray, List.set_cons_zero, List.set_cons_succ]
                  refine' text_chunk 20 (by kernel_rfl) hHeld ?ck6 ?cr6
                  case ck6 =>
                    intro W hSw
                    have hSW := hSw
                    try dsimp only at hSW
                    clear hSw
                    simp only [List.take_succ_cons, List.take_zero, List.drop_succ_cons, List.drop_zero]
                    repeat (go_big_quiet_step (fail))
                    exact wpQuiet_nil rfl
                  simp only [List.take_succ_cons, List.take_zero, List.drop_succ_cons, List.drop_zero]
                  refine text_done ?_
                  have HL := hHeld.2.2.2.2
                  clear hHeld
                  go_wp2
                  go_ret
                  exact ⟨by rw [hre.out]; rfl, E0.out.trans HL.out⟩
                have d4 : decide (x ≤ y) = false := decide_eq_false h4
                have hup := Lib.hid (show up (bd.take (k + 1)) = true from by rw [HQ.out]; simp; omega)
                clear h1 h2 h4
                have HKP := Lib.hid (show ∀ X X' : World, (fun X : World => X.cell? ⟨w.heap.size, 0, none⟩ = some (.slice a n cap) ∧ X.cell? ⟨w.heap.size, 1, none⟩ = some (.slice (some ⟨bb, off, none⟩) nb cap') ∧ X.cell? ⟨bb, off + k, none⟩ = some (.int .i64 x) ∧ X.cell? ⟨bb, off + (k - 1), none⟩ = some (.int .i64 y) ∧ Hid (Ext (w.alloc (.cells #[.slice a n cap, .slice (some ⟨bb, off, none⟩) nb cap'] 25)) X)) X → Ext X X' → (fun X : World => X.cell? ⟨w.heap.size, 0, none⟩ = some (.slice a n cap) ∧ X.cell? ⟨w.heap.size, 1, none⟩ = some (.slice (some ⟨bb, off, none⟩) nb cap') ∧ X.cell? ⟨bb, off + k, none⟩ = some (.int .i64 x) ∧ X.cell? ⟨bb, off + (k - 1), none⟩ = some (.int .i64 y) ∧ Hid (Ext (w.alloc (.cells #[.slice a n cap, .slice (some ⟨bb, off, none⟩) nb cap'] 25)) X)) X' from fun X X' h hb => ⟨cell_ext hb h.1, cell_ext hb h.2.1, cell_ext hb h.2.2.1, cell_ext hb h.2.2.2.1, Lib.hid (Ext.trans h.2.2.2.2.out hb)⟩)
                go_wp2
                refine wp_region_order (fun X : World => X.cell? ⟨w.heap.size, 0, none⟩ = some (.slice a n cap) ∧ X.cell? ⟨w.heap.size, 1, none⟩ = some (.slice (some ⟨bb, off, none⟩) nb cap') ∧ X.cell? ⟨bb, off + k, none⟩ = some (.int .i64 x) ∧ X.cell? ⟨bb, off + (k - 1), none⟩ = some (.int .i64 y) ∧ Hid (Ext (w.alloc (.cells #[.slice a n cap, .slice (some ⟨bb, off, none⟩) nb cap'] 25)) X)) [0, 1, 2, 3, 4, 5, 6, 7, 8, 9, 10, 11, 12, 13, 14, 15, 16, 17, 18, 19, 20, 21, 22, 23, 24, 25, 26, 27, 28, 29, 30, 31, 32, 33] (by kernel_rfl) (by kernel_rfl) (by exact ⟨q0, q1, hcx, hcy, Lib.hid hE1.out.drew⟩) (fun hHeld => ?_)
                simp only [opsIn, List.filterMap_cons, List.filterMap_nil, List.getElem?_toArray, List.getElem?_cons_succ, List.getElem?_cons_zero]
                refine' text_chunk 13 (by kernel_rfl) hHeld ?ck7 ?cr7
                case ck7 =>
                  intro W hSw
                  have hSW := hSw
                  try dsimp only at hSW
                  clear hSw
                  simp only [List.take_succ_cons, List.take_zero, List.drop_succ_cons, List.drop_zero]
                  repeat (go_big_quiet_step (fail))
                  exact wpQuiet_nil rfl
                simp only [List.take_succ_cons, List.take_zero, List.drop_succ_cons, List.drop_zero]
                refine text_call (by rfl) (by rfl) (fun K hK => ?_)
                go_simp
                (go_at_call 43; refine (long43 a n cap _ _ (by omega)).mono ?_; rintro e w5 ⟨rfl, hb⟩)
                all_goals (try (go_wp2_with fail))
                refine hK.out _ _ (by exact HKP.out _ _ hHeld hb) (fun hHeld => ?_)
                clear hK K
                try simp only [Act.put, List.setIfInBounds_toArray, List.set_cons_zero, List.set_cons_succ]
                refine' text_chunk 20 (by kernel_rfl) hHeld ?ck8 ?cr8
                case ck8 =>
                  intro W hSw
                  have hSW := hSw
                  try dsimp only at hSW
                  clear hSw
                  simp only [List.take_succ_cons, List.take_zero, List.drop_succ_cons, List.drop_zero]
                  repeat (go_big_quiet_step (fail))
                  exact wpQuiet_nil rfl
                simp only [List.take_succ_cons, List.take_zero, List.drop_succ_cons, List.drop_zero]
                refine text_done ?_
                have HL := hHeld.2.2.2.2
                clear hHeld
                go_wp2
                go_roundw
                case rel => exact ⟨k + 1, by omega, by go_num, HL, hin, hup⟩
                case measure => simp [intOf]; omega
              have d3 : decide (0 < (k : Int)) = false := by simp; omega
              have d3' : decide (0 < k) = false := by simp; omega
              have hup := Lib.hid (show up (bd.take (k + 1)) = true from by
                rw [show k + 1 = 1 by omega]
                cases bd <;> simp [up])
              clear h1 h2
              have HKP := Lib.hid (show ∀ X X' : World, (fun X : World => X.cell? ⟨w.heap.size, 0, none⟩ = some (.slice a n cap) ∧ X.cell? ⟨w.heap.size, 1, none⟩ = some (.slice (some ⟨bb, off, none⟩) nb cap') ∧ X.cell? ⟨bb, off + k, none⟩ = some (.int .i64 x) ∧ Hid (Ext (w.alloc (.cells #[.slice a n cap, .slice (some ⟨bb, off, none⟩) nb cap'] 25)) X)) X → Ext X X' → (fun X : World => X.cell? ⟨w.heap.size, 0, none⟩ = some (.slice a n cap) ∧ X.cell? ⟨w.heap.size, 1, none⟩ = some (.slice (some ⟨bb, off, none⟩) nb cap') ∧ X.cell? ⟨bb, off + k, none⟩ = some (.int .i64 x) ∧ Hid (Ext (w.alloc (.cells #[.slice a n cap, .slice (some ⟨bb, off, none⟩) nb cap'] 25)) X)) X' from fun X X' h hb => ⟨cell_ext hb h.1, cell_ext hb h.2.1, cell_ext hb h.2.2.1, Lib.hid (Ext.trans h.2.2.2.out hb)⟩)
              go_wp2
              refine wp_region_order (fun X : World => X.cell? ⟨w.heap.size, 0, none⟩ = some (.slice a n cap) ∧ X.cell? ⟨w.heap.size, 1, none⟩ = some (.slice (some ⟨bb, off, none⟩) nb cap') ∧ X.cell? ⟨bb, off + k, none⟩ = some (.int .i64 x) ∧ Hid (Ext (w.alloc (.cells #[.slice a n cap, .slice (some ⟨bb, off, none⟩) nb cap'] 25)) X)) [0, 1, 2, 3, 4, 5, 6, 7, 8, 9, 10, 11, 12, 13, 14, 15, 16, 17, 18, 19, 20, 21, 22, 23, 24, 25, 26, 27, 28, 29, 30, 31, 32, 33] (by kernel_rfl) (by kernel_rfl) (by exact ⟨q0, q1, hcx, Lib.hid hE1.out.drew⟩) (fun hHeld => ?_)
              simp only [opsIn, List.filterMap_cons, List.filterMap_nil, List.getElem?_toArray, List.getElem?_cons_succ, List.getElem?_cons_zero]
              refine' text_chunk 13 (by kernel_rfl) hHeld ?ck9 ?cr9
              case ck9 =>
                intro W hSw
                have hSW := hSw
                try dsimp only at hSW
                clear hSw
                simp only [List.take_succ_cons, List.take_zero, List.drop_succ_cons, List.drop_zero]
                repeat (go_big_quiet_step (fail))
                exact wpQuiet_nil rfl
              simp only [List.take_succ_cons, List.take_zero, List.drop_succ_cons, List.drop_zero]
              refine text_call (by rfl) (by rfl) (fun K hK => ?_)
              go_simp
              (go_at_call 43; refine (long43 a n cap _ _ (by omega)).mono ?_; rintro e w5 ⟨rfl, hb⟩)
              all_goals (try (go_wp2_with fail))
              refine hK.out _ _ (by exact HKP.out _ _ hHeld hb) (fun hHeld => ?_)
              clear hK K
              try simp only [Act.put, List.setIfInBounds_toArray, List.set_cons_zero, List.set_cons_succ]
              refine' text_chunk 20 (by kernel_rfl) hHeld ?ck10 ?cr10
              case ck10 =>
                intro W hSw
                have hSW := hSw
                try dsimp only at hSW
                clear hSw
                simp only [List.take_succ_cons, List.take_zero, List.drop_succ_cons, List.drop_zero]
                repeat (go_big_quiet_step (fail))
                exact wpQuiet_nil rfl
              simp only [List.take_succ_cons, List.take_zero, List.drop_succ_cons, List.drop_zero]
              refine text_done ?_
              have HL := hHeld.2.2.2
              clear hHeld
              go_wp2
              go_roundw
              case rel => exact ⟨k + 1, by omega, by go_num, HL, hin, hup⟩
              case measure => simp [intOf]; omega
            · have hkb : ¬ (k : Int) < (nb : Int) := by omega
              have hre := Lib.hid (show res = 0 from by
                have h1 := hI.out; have h2 := hU.out
                rw [List.take_of_length_le (by rw [← HN'.out]; omega)] at h1 h2
                rw [HR3.out, if_neg (by rw [h1, h2]; simp)])
              clear HR3 hI hU
              go_wp2
              go_ret
              exact ⟨by rw [hre.out]; rfl, E0.out.trans hE1.out⟩
end Go.Proofs.Ytcgheakadfjofaa
