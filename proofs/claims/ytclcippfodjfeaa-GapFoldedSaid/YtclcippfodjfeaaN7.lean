/- turning, by its contract. -/
import Derived.Test.YtclcippfodjfeaaN6
import Derived.Deep.LoopGhost
namespace Go.Proofs.Ytclcippfodjfeaa
open Go.RowKit Go.Shelf
set_option linter.unusedVariables false
set_option linter.unusedSimpArgs false
attribute [local go_sem] Oper.semAt_some
def Fr56 (Bn Bt n k pk : Nat) (ds : List Deferred) (A : Act) : Prop :=
  ∃ x0 x5 x6 x7 x8 x9 x10 x11 x12 x13 x14 x15 x16 x17 x18 x19 x22 x23 x24 x25 x26 x27 x28 x29 x30 x31 x32 x33 x34 x35 x36 x37 x38 x39 x40 x41 x42 x43 x44 x45 x46 x47 x48 x49 x50 x51 x52 x53 x54 x55 x56 x57 x58 x59 x60 x61 x62 x63 : Value, A = { tmps := #[x0, .pointer (some ⟨Bn, 0, none⟩), .slice none 0 0, .pointer (some ⟨Bt, 0, none⟩), .int .i64 (pk : Int), x5, x6, x7, x8, x9, x10, x11, x12, x13, x14, x15, x16, x17, x18, x19, .int .i64 (n : Int), .int .i64 (k : Int), x22, x23, x24, x25, x26, x27, x28, x29, x30, x31, x32, x33, x34, x35, x36, x37, x38, x39, x40, x41, x42, x43, x44, x45, x46, x47, x48, x49, x50, x51, x52, x53, x54, x55, x56, x57, x58, x59, x60, x61, x62, x63], defers := ds }
theorem Fr56.mk {Bn Bt n k pk : Nat} {ds : List Deferred} {x0 x5 x6 x7 x8 x9 x10 x11 x12 x13 x14 x15 x16 x17 x18 x19 x22 x23 x24 x25 x26 x27 x28 x29 x30 x31 x32 x33 x34 x35 x36 x37 x38 x39 x40 x41 x42 x43 x44 x45 x46 x47 x48 x49 x50 x51 x52 x53 x54 x55 x56 x57 x58 x59 x60 x61 x62 x63 : Value} : Fr56 Bn Bt n k pk ds { tmps := #[x0, .pointer (some ⟨Bn, 0, none⟩), .slice none 0 0, .pointer (some ⟨Bt, 0, none⟩), .int .i64 (pk : Int), x5, x6, x7, x8, x9, x10, x11, x12, x13, x14, x15, x16, x17, x18, x19, .int .i64 (n : Int), .int .i64 (k : Int), x22, x23, x24, x25, x26, x27, x28, x29, x30, x31, x32, x33, x34, x35, x36, x37, x38, x39, x40, x41, x42, x43, x44, x45, x46, x47, x48, x49, x50, x51, x52, x53, x54, x55, x56, x57, x58, x59, x60, x61, x62, x63], defers := ds } := ⟨x0, x5, x6, x7, x8, x9, x10, x11, x12, x13, x14, x15, x16, x17, x18, x19, x22, x23, x24, x25, x26, x27, x28, x29, x30, x31, x32, x33, x34, x35, x36, x37, x38, x39, x40, x41, x42, x43, x44, x45, x46, x47, x48, x49, x50, x51, x52, x53, x54, x55, x56, x57, x58, x59, x60, x61, x62, x63, rfl⟩
theorem turnTo_pk (row : List Int) (F : List Lk) (k : Nat) : (turnTo row F k).2 ≤ k := by
  induction k with
  | zero => exact Nat.le_refl _
  | succ k ih =>
    rw [turnTo_succ]
    unfold tStep tOne
    dsimp only
    split
    · dsimp only; omega
    · omega
theorem turnTo_len (row : List Int) (F : List Lk) (k : Nat) : (turnTo row F k).1.length = row.length := by
  induction k with
  | zero => simp [turnTo]
  | succ k ih =>
    rw [turnTo_succ]
    unfold tStep tOne
    dsimp only
    rw [tIn_len]
    split
    · simp [ih]
    · exact ih
set_option maxRecDepth 100000 in
set_option maxHeartbeats 4000000 in
theorem turning56 (w₀ w : World) (bn : Nat) (a : Option Addr) (n cap : Nat) (row : List Int) (mf nf : Nat) (F : List Lk) (far : List Int) (last : List Lk)
    (h : NetAt w₀ w bn a n cap row mf nf F far last) :
    Calls Try.prog 56 #[.pointer (some ⟨bn, 0, none⟩)] w (OwnList w (turnM row F)) := by
  refine (callsIn_wide (n := 12)).1 ?_
  obtain ⟨w1, hw1⟩ : ∃ w1, w1 = (w.alloc (.cells #[.pointer (some ⟨bn, 0, none⟩)] 64)).alloc (.cells #[.int .i64 (-1)] 3) := ⟨_, rfl⟩
  have hE1 : Ext w w1 := by rw [hw1]; exact ((Ext.refl w).alloc _).alloc _
  have hb1 : Boxed w1 w.heap.size 64 (.pointer (some ⟨bn, 0, none⟩)) := by rw [hw1]; exact (Boxed.new w 64 _).alloc _
  have hc1 : w1.cell? ⟨w.heap.size + 1, 0, none⟩ = some (.int .i64 (-1)) := by rw [hw1]; exact World.cell?_alloc_at _ _ _ _ (by simp)
  have hz1 : w1.heap.size = w.heap.size + 2 := by rw [hw1]; simp
  have C73 := Lib.hid (repeat73 (w.heap.size + 1) n h.le (-1) w1 hc1)
  have hwt := (h.ext hE1).net.wanted
  have hbc := hb1.cell
  have hlt := h.net.lt
  have hmn := h.ne
  have hml := h.flow.lt
  have hwb := h.base.size
  have hn30 := h.le
  have H := Lib.hid h; have HE1 := Lib.hid hE1; have HB1 := Lib.hid hb1
  subst hw1
  clear h hE1 hb1 hc1
  refine callsIn_of_wp_marks Try.func56 rfl trivial ?_ rfl
  simp only [Try.ntmps56, List.size_toArray, List.length_cons, List.length_nil, Nat.reduceAdd, Nat.reduceSub, Array.replicate_succ, Array.replicate_zero, List.push_toArray, List.append_toArray, List.nil_append, List.cons_append]
  refine wpIn_wide.2 ?_
  go_wp2_with fail
  refine C73.out.mono ?_
  rintro e w2 ⟨g, hg, rfl, hA, hE2⟩
  have hlr : (List.replicate n (-1 : Int)).length = n := List.length_replicate
  rw [hlr]
  obtain ⟨w3, hw3⟩ : ∃ w3, w3 = w2.alloc (.cells #[.slice (some ⟨g, 0, none⟩) n n] 23) := ⟨_, rfl⟩
  have hE3 : Ext w2 w3 := by rw [hw3]; exact (Ext.refl w2).alloc _
  have hbt : Boxed w3 w2.heap.size 23 (.slice (some ⟨g, 0, none⟩) n n) := by rw [hw3]; exact Boxed.new w2 23 _
  have hz3 : w3.heap.size = w2.heap.size + 1 := by rw [hw3]; simp
  have hz2 := hE2.size
  have hgl := lt_of_blk hA
  have hbc3 := cell_ext hE3 (cell_ext hE2 hbc)
  have hwt3 := cell_ext hE3 (cell_ext hE2 hwt)
  have HA3 := Lib.hid (hA.ext hE3); have HBT := Lib.hid hbt
  have HN3 := Lib.hid (H.out.ext (HE1.out.trans (hE2.trans hE3))); have HB3 := Lib.hid (boxed_later HB1.out (hE2.trans hE3)); have HE3 := Lib.hid (HE1.out.trans (hE2.trans hE3))
  rw [hz1] at hg hz2
  subst hw3
  clear hlr hA hE2 hE3 hbt hwt hbc C73
  go_wp2
  generalize hW3 : w2.alloc (.cells #[.slice (some ⟨g, 0, none⟩) n n] 23) = W3 at *
  clear hW3
  refine wp_loop_ghost (fun N A wr => ∃ (k pk : Nat) (ds : List Deferred), k + N = n ∧ Fr56 w.heap.size w2.heap.size n k pk ds A ∧ Hid (pk = (turnTo row F k).2) ∧ Hid (ArrI wr g 3 (turnTo row F k).1) ∧ Hid (NetAt w₀ wr bn a n cap row mf nf F far last) ∧ Hid (Keep [g] 0 W3 wr) ∧ Hid (Marks W3.heap.size ds wr)) n ?start ?round
  case start => exact ⟨0, 0, [], by omega, Fr56.mk, Lib.hid rfl, by have := HA3.out; rw [H.out.len] at this; exact this, HN3, Lib.hid (Keep.refl _ _ _), Lib.hid (Marks.nil _ _)⟩
  case round =>
    rintro N A wr ⟨k, pk, ds, hkn, ⟨x0, x5, x6, x7, x8, x9, x10, x11, x12, x13, x14, x15, x16, x17, x18, x19, x22, x23, x24, x25, x26, x27, x28, x29, x30, x31, x32, x33, x34, x35, x36, x37, x38, x39, x40, x41, x42, x43, x44, x45, x46, x47, x48, x49, x50, x51, x52, x53, x54, x55, x56, x57, x58, x59, x60, x61, x62, x63, rfl⟩, hPK, hAR, hNA, hKP, hMK⟩
    have hks := hKP.out.size
    have nbn : w.heap.size ∉ [g] := by simp; omega
    have nbt : w2.heap.size ∉ [g] := by simp; omega
    have d1 := hKP.out.cell nbn HB3.out.cell
    have dt := hKP.out.cell nbt HBT.out.cell
    by_cases hlt2 : k < n
    · have k0 : (0 : Int) ≤ (k : Int) := by omega
      have k1 : (k : Int) < (n : Int) := by omega
      have kt : (k : Int).toNat = k := by omega
      have k100 : k ≤ 100 := by omega
      have hpk := turnTo_pk row F k
      rw [← hPK.out] at hpk
      obtain ⟨t, htt⟩ : ∃ t, t = (turnTo row F k).1 := ⟨_, rfl⟩
      have hAR2 := hAR.out
      rw [← htt] at hAR2
      have htl : t.length = row.length := by rw [htt]; exact turnTo_len row F k
      have hnx : turnTo row F (k + 1) = (tIn row F k (tOne F k (t, pk)).1 (behindL row k), (tOne F k (t, pk)).2) := by rw [turnTo_succ, htt, hPK.out]; rfl
      have HNX := Lib.hid hnx; have HTL := Lib.hid htl
      obtain ⟨wl, hwl⟩ : ∃ wl, wl = wr.alloc (.cells #[.int .i64 (k : Int)] 3) := ⟨_, rfl⟩
      have hEl : Ext wr wl := by rw [hwl]; exact (Ext.refl wr).alloc _
      have hbl : Boxed wl wr.heap.size 3 (.int .i64 (k : Int)) := by rw [hwl]; exact Boxed.new wr 3 _
      have hzl : wl.heap.size = wr.heap.size + 1 := by rw [hwl]; simp
      have e1 := cell_ext hEl d1; have et := cell_ext hEl dt; have el := hbl.cell
      have HNL := Lib.hid (hNA.out.ext hEl)
      have em := HNL.out.net.flow; have ew := HNL.out.net.wanted
      have HAL := Lib.hid (ArrI.ext hAR2 hEl)
      have HBL := Lib.hid hbl; have HBN := Lib.hid (boxed_later (hKP.out.boxed nbn HB3.out) hEl); have HBTL := Lib.hid (boxed_later (hKP.out.boxed nbt HBT.out) hEl)
      have hfr := HAL.out.frozen k
      have hcell := HAL.out.cell (p := k) (by rw [htl, ← HNL.out.len]; exact hlt2)
      have HKL := Lib.hid (hKP.out.trans (Keep.ext hEl)); have HML := Lib.hid (hMK.out.keep (rs := []) (c := 0) (Keep.ext hEl) (by simp))
      obtain ⟨f1, hf1⟩ : ∃ f1, f1 = inF F (0, bef k) := ⟨_, rfl⟩
      have HF1 := Lib.hid hf1
      have hL : ∀ Z, Ext wl Z → (Instr.lookup 73 (.map (some mf)) (.agg #[.int .i64 0, .int .i64 (bef k : Int)]) false).run Try.prog Z = .ok (.bool f1) Z := fun Z hZ => by
        have := (HNL.out.flow.ext hZ).look (0, bef k) ⟨by simp, by simp [bef]; omega⟩
        rw [← HF1.out] at this
        exact this
      have HLK := Lib.hid hL
      clear hf1 hL hEl hbl hAR2 htl hnx htt hAR hPK hNA hKP hMK d1 dt
      go_upto_region 6 with fail
      rw [← hwl]
      clear hwl
      refine wp_region_order (fun X : World => X.cell? ⟨w.heap.size, 0, none⟩ = some (.pointer (some ⟨bn, 0, none⟩)) ∧ X.cell? ⟨bn, 1, none⟩ = some (.map (some mf)) ∧ X.cell? ⟨wr.heap.size, 0, none⟩ = some (.int .i64 (k : Int)) ∧ Hid (Ext wl X)) [0, 1, 2, 3, 4, 5, 6, 7] (by kernel_rfl) (by kernel_rfl) (by exact ⟨e1, em, el, Lib.hid (Ext.refl _).drew⟩) (fun hHeld => ?_)
      simp only [opsIn, List.filterMap_cons, List.filterMap_nil, List.getElem?_toArray, List.getElem?_cons_succ, List.getElem?_cons_zero]
      refine' text_chunk 5 (by kernel_rfl) hHeld ?ck1 ?cr1
      case ck1 =>
        intro W hSw
        have hSW := hSw
        try dsimp only at hSW
        clear hSw
        simp only [List.take_succ_cons, List.take_zero, List.drop_succ_cons, List.drop_zero]
        repeat (go_big_quiet_step (fail))
        exact wpQuiet_nil rfl
      simp only [List.take_succ_cons, List.take_zero, List.drop_succ_cons, List.drop_zero]
      refine text_call (by rfl) (by rfl) (fun K hK => ?_)
      go_simp
      go_at_call 74
      refine (before74 k _ k100).mono ?_
      rintro e w5 ⟨rfl, rfl⟩
      all_goals (try (go_wp2_with fail))
      refine hK.out _ _ (by exact hHeld) (fun hHeld => ?_)
      clear hK K
      try simp only [Act.put, List.setIfInBounds_toArray, List.set_cons_zero, List.set_cons_succ]
      refine' text_chunk 1 (by kernel_rfl) hHeld ?ck2 ?cr2
      case ck2 =>
        intro W hSw
        have hSW := hSw
        try dsimp only at hSW
        clear hSw
        simp only [List.take_succ_cons, List.take_zero, List.drop_succ_cons, List.drop_zero]
        repeat (go_big_quiet_step (fail))
        exact wpQuiet_nil rfl
      simp only [List.take_succ_cons, List.take_zero, List.drop_succ_cons, List.drop_zero]
      have hL := HLK.out wl.drew (Ext.refl wl).drew
      refine text_call (by rfl) (by rfl) (fun K hK => ?_)
      go_simp
      refine hK.out _ _ (by exact hHeld) (fun hHeld => ?_)
      clear hK K hL
      try simp only [Act.put, List.setIfInBounds_toArray, List.set_cons_zero, List.set_cons_succ]
      refine text_done ?_
      clear hHeld
      cases f1
      · obtain ⟨W6, hW6⟩ : ∃ W, W = wl.drew := ⟨_, rfl⟩
        have hK : Keep [g] 0 wl W6 := by rw [hW6]; exact Keep.ext (Ext.refl wl).drew
        have HZ6 := Lib.hid (show W6.heap.size = wl.heap.size from by rw [hW6]; rfl)
        obtain ⟨t1, ht1⟩ : ∃ t1, t1 = t := ⟨_, rfl⟩
        obtain ⟨pk1, hp1⟩ : ∃ pk1, pk1 = pk := ⟨_, rfl⟩
        have HT1 := Lib.hid (show tOne F k (t, pk) = (t1, pk1) from by unfold tOne; rw [← HF1.out, ht1, hp1]; rfl)
        have HA6 := Lib.hid (show ArrI W6 g 3 t1 from by rw [ht1, hW6]; exact ArrI.ext HAL.out (Ext.refl wl).drew)
        rw [← hW6]
        rw [← hp1]
        clear hW6 ht1 hp1
        go_upto_region 9 with fail
        have HBN6 := Lib.hid (hK.boxed nbn HBN.out); have HBT6 := Lib.hid (hK.boxed nbt HBTL.out); have HBL6 := Lib.hid (hK.boxed (by simp; omega) HBL.out)
        have HN6 := Lib.hid (HNL.out.keep hK (by simp; omega) (by simp; omega) (by simp; omega))
        have HK6 := Lib.hid (HKL.out.trans hK)
        have HM6 := Lib.hid (HML.out.keepC hK (fun r hr => by obtain rfl := List.mem_singleton.1 hr; exact .inr ⟨_, _, _, HAL.out⟩))
        clear hK
        have z1 := HBN6.out.cell; have zl := HBL6.out.cell; have zw := HN6.out.net.wanted
        refine wp_region_order (fun X : World => X.cell? ⟨w.heap.size, 0, none⟩ = some (.pointer (some ⟨bn, 0, none⟩)) ∧ X.cell? ⟨bn, 0, none⟩ = some (.slice a n cap) ∧ X.cell? ⟨wr.heap.size, 0, none⟩ = some (.int .i64 (k : Int)) ∧ Hid (Ext W6 X)) [0, 1, 2, 3, 4, 5] (by kernel_rfl) (by kernel_rfl) (by exact ⟨z1, zw, zl, Lib.hid (Ext.refl _).drew⟩) (fun hHeld => ?_)
        simp only [opsIn, List.filterMap_cons, List.filterMap_nil, List.getElem?_toArray, List.getElem?_cons_succ, List.getElem?_cons_zero]
        refine' text_chunk 5 (by kernel_rfl) hHeld ?ck3 ?cr3
        case ck3 =>
          intro W hSw
          have hSW := hSw
          try dsimp only at hSW
          clear hSw
          simp only [List.take_succ_cons, List.take_zero, List.drop_succ_cons, List.drop_zero]
          repeat (go_big_quiet_step (fail))
          exact wpQuiet_nil rfl
        simp only [List.take_succ_cons, List.take_zero, List.drop_succ_cons, List.drop_zero]
        refine text_call (by rfl) (by rfl) (fun K hK => ?_)
        go_simp
        go_at_call 75
        refine (behind75 a n cap (k : Int) _).mono ?_
        rintro e w5 ⟨rfl, rfl⟩
        all_goals (try (go_wp2_with fail))
        refine hK.out _ _ (by exact ⟨cell_ext (behW_ext _ _ _) hHeld.1, cell_ext (behW_ext _ _ _) hHeld.2.1, cell_ext (behW_ext _ _ _) hHeld.2.2.1, Lib.hid (hHeld.2.2.2.out.trans (behW_ext _ _ _))⟩) (fun hHeld => ?_)
        clear hK K
        try simp only [Act.put, List.setIfInBounds_toArray, List.set_cons_zero, List.set_cons_succ]
        refine text_done ?_
        have HE8 := Lib.hid hHeld.2.2.2.out
        clear hHeld z1 zl zw
        have hz6 : W6.heap.size = wr.heap.size + 1 := by have := HZ6.out; omega
        have HSEQ := Lib.hid (behind_seq 11 n n cap k a row [g] 0 W6.drew (by omega) HN6.out.len (Nat.le_refl _) hlt2 (by omega) (fun X hX => HN6.out.row0.ext (Below.keep (HN6.out.base.drew) hX (by simp; omega))) (by simp; omega))
        have hzd : W6.drew.heap.size = W6.heap.size := rfl
        obtain ⟨W8, hW8⟩ : ∃ W8, W8 = behW W6.drew (.slice a n cap) (k : Int) := ⟨_, rfl⟩
        rw [← hW8] at HE8 HSEQ ⊢
        have hz8 : W8.heap.size = W6.heap.size + 5 := by rw [hW8, behW_size, hzd]
        clear hW8
        rw [hzd] at HSEQ
        have HZ66 := Lib.hid hz6; have HZ8 := Lib.hid hz8
        clear hz6 hz8 hzd
        go_wp2
        have hz6 := HZ66.out; have hz8 := HZ8.out
        refine wpIn_wide.1 (wp_seqAny1 (n := 12) (by omega) (gf := 94) (encs := encF fun x => x < n ∧ behB row k x = true) (ps := #[44]) (rs := [g]) (c := 0) rfl (enters_of Try.func94 (by kernel_rfl) rfl) HSEQ.out (Below.refl _ _) (fun _ => rfl) (by simp; omega)
          (fun p2 X => ArrI X g 3 (tIn row F k t1 (vF p2)) ∧ Keep [g] 0 W8 X) ?hI ?h0 ?af ?assign ?body ?done)
        case hI =>
          rintro s A B rw ⟨h1, h2⟩ hg hr
          exact ⟨cells_turn h1 hg hr, ownFrom_keep (β := Unit) (Nat.le_refl _) (by simp; omega) () A B rw h2 hg hr⟩
        case h0 => exact ⟨ArrI.ext HA6.out HE8.out, Keep.refl _ _ _⟩
        case assign =>
          rintro l2 x X K hK
          dsimp only [encF]
          gi_wp2
          exact hK
        case body =>
          rintro l2 p2 x X hl2 ⟨hAX, hKX⟩ hlt3
          obtain ⟨x, hx1, hx2⟩ := x
          repeat (rename_i q; clear q)
          have hkx : k < x := by unfold behB at hx2; rw [Bool.and_eq_true] at hx2; exact of_decide_eq_true hx2.1
          have x100 : x ≤ 100 := by omega
          have y1 := hKX.cell nbn (boxed_later HBN6.out HE8.out).cell
          have y4 := hKX.cell nbt (boxed_later HBT6.out HE8.out).cell
          have y3 := hKX.cell (by simp; omega) (boxed_later HBL6.out HE8.out).cell
          have hNX := (HN6.out.ext HE8.out).keep hKX (by simp; omega) (by simp; omega) (by simp; omega)
          have y2 := hNX.net.flow
          obtain ⟨t', ht'⟩ : ∃ t', t' = tIn row F k t1 (vF p2) := ⟨_, rfl⟩
          have hsn : tIn row F k t1 (vF (p2 ++ [⟨x, hx1, hx2⟩])) = if inF F (aft k, bef x) then t'.set x (tAt t' k) else t' := by rw [vF_snoc, tIn_snoc, ht']
          rw [← ht'] at hAX
          have hl1 : t1.length = row.length := by
            have h1 := HT1.out; unfold tOne at h1
            split at h1 <;> · cases h1; simp [HTL.out]
          have hl' : t'.length = row.length := by rw [ht', tIn_len, hl1]
          have hnr := hNX.len
          have c1 := hAX.cell (p := k) (by omega)
          have c2 := hAX.cell (p := x) (by omega)
          have fz := hAX.frozen x
          obtain ⟨v1, hv1⟩ : ∃ v, v = tAt t' k := ⟨_, rfl⟩
          obtain ⟨v2, hv2⟩ : ∃ v, v = tAt t' x := ⟨_, rfl⟩
          rw [← hv1] at c1 hsn
          rw [← hv2] at c2
          obtain ⟨f2, hf2⟩ : ∃ f2, f2 = inF F (aft k, bef x) := ⟨_, rfl⟩
          rw [← hf2] at hsn
          have HF2 := Lib.hid hf2; have HSN := Lib.hid hsn; have HNX3 := Lib.hid hNX; have HAX := Lib.hid hAX; have HKX := Lib.hid hKX
          have hL : (Instr.lookup 73 (.map (some mf)) (.agg #[.int .i64 (aft k : Int), .int .i64 (bef x : Int)]) false).run Try.prog X.drew = .ok (.bool f2) X.drew := by
            have := (HNX3.out.flow.ext (Ext.refl X).drew).look (aft k, bef x) ⟨by simp [aft]; omega, by simp [bef]; omega⟩
            rw [← HF2.out] at this
            exact this
          have HL := Lib.hid hL
          have xk : ¬ g = w.heap.size := by omega
          have c3 := cell_set_ne X (b := g) (o := x) (o' := k) (fun e => by cases e; omega) (.int .i64 v1)
          have hx0 : (0 : Int) ≤ (x : Int) := by omega
          have hx3 : (x : Int) < (n : Int) := by omega
          have hxt : (x : Int).toNat = x := by omega
          have HC3 := Lib.hid (show (X.setCell ⟨g, x, none⟩ (.int .i64 v1)).cell? ⟨g, k, none⟩ = some (.int .i64 v1) from c3.trans c1)
          have G1 := Lib.hid (show g ≠ w2.heap.size from by omega); have G2 := Lib.hid (show g ≠ wr.heap.size from by omega)
          clear hf2 hsn hNX hAX hKX hL ht' hl1 hl' hnr hv1 hv2 hkx c3 xk HNX HT1
          clear hz6 hz8 hks
          gi_wp2
          refine wpIn_order (tk := takeB) (fun f => trivial) (fun Z : World => Z.cell? ⟨w.heap.size, 0, none⟩ = some (.pointer (some ⟨bn, 0, none⟩)) ∧ Z.cell? ⟨bn, 1, none⟩ = some (.map (some mf)) ∧ Z.cell? ⟨wr.heap.size, 0, none⟩ = some (.int .i64 (k : Int)) ∧ Hid (Ext X Z)) [0, 1, 2, 3, 4, 6, 5, 7, 8, 9] (by kernel_rfl) (by kernel_rfl) (by kernel_rfl) (by exact ⟨y1, y2, y3, Lib.hid (Ext.refl _).drew⟩) (fun hHeld => ?_)
          simp only [opsIn, List.filterMap_cons, List.filterMap_nil, List.getElem?_toArray, List.getElem?_cons_succ, List.getElem?_cons_zero]
          refine' textI_chunk 6 (by kernel_rfl) hHeld ?ck4 ?cr4
          case ck4 =>
            intro W hSw
            have hSW := hSw
            try dsimp only at hSW
            clear hSw
            simp only [List.take_succ_cons, List.take_zero, List.drop_succ_cons, List.drop_zero]
            repeat (go_big_quiet_step (fail))
            exact wpQuiet_nil rfl
          simp only [List.take_succ_cons, List.take_zero, List.drop_succ_cons, List.drop_zero]
          refine textI_call (by rfl) (by rfl) (fun K hK => ?_)
          go_simp
          refine ⟨trivial, (CallsIn.inRound l2 (callsIn_wide.2 (after76 k _ k100))).mono ?_⟩
          rintro e w5 ⟨rfl, rfl⟩
          all_goals (try (gi_wp2_with fail))
          refine hK.out _ _ (by exact hHeld) (fun hHeld => ?_)
          clear hK K
          try simp only [Act.put, List.setIfInBounds_toArray, List.set_cons_zero, List.set_cons_succ]
          refine textI_call (by rfl) (by rfl) (fun K hK => ?_)
          go_simp
          refine ⟨trivial, (CallsIn.inRound l2 (callsIn_wide.2 (before74 x _ x100))).mono ?_⟩
          rintro e w5 ⟨rfl, rfl⟩
          all_goals (try (gi_wp2_with fail))
          refine hK.out _ _ (by exact hHeld) (fun hHeld => ?_)
          clear hK K
          try simp only [Act.put, List.setIfInBounds_toArray, List.set_cons_zero, List.set_cons_succ]
          refine' textI_chunk 1 (by kernel_rfl) hHeld ?ck5 ?cr5
          case ck5 =>
            intro W hSw
            have hSW := hSw
            try dsimp only at hSW
            clear hSw
            simp only [List.take_succ_cons, List.take_zero, List.drop_succ_cons, List.drop_zero]
            repeat (go_big_quiet_step (fail))
            exact wpQuiet_nil rfl
          simp only [List.take_succ_cons, List.take_zero, List.drop_succ_cons, List.drop_zero]
          have hL := HL.out
          refine textI_call (by rfl) (by rfl) (fun K hK => ?_)
          go_simp
          refine hK.out _ _ (by exact hHeld) (fun hHeld => ?_)
          clear hK K hL
          try simp only [Act.put, List.setIfInBounds_toArray, List.set_cons_zero, List.set_cons_succ]
          refine textI_done ?_
          clear hHeld
          cases f2
          · gi_wp2
            refine ⟨Keep.ext (Ext.refl X).drew, ?_, HKX.out.trans (Keep.ext (Ext.refl X).drew)⟩
            rw [HSN.out]
            exact ArrI.ext HAX.out (Ext.refl X).drew
          · gi_wp2
            refine wpIn_order (tk := takeB) (fun f => trivial) (fun Z : World => Z.cell? ⟨w2.heap.size, 0, none⟩ = some (.slice (some ⟨g, 0, none⟩) n n) ∧ Z.cell? ⟨wr.heap.size, 0, none⟩ = some (.int .i64 (k : Int)) ∧ Z.cell? ⟨g, k, none⟩ = some (.int .i64 v1)) [0, 1, 2, 3, 4, 5, 6, 7] (by kernel_rfl) (by kernel_rfl) (by kernel_rfl) (by exact ⟨y4, y3, c1⟩) (fun hHeld => ?_)
            simp only [opsIn, List.filterMap_cons, List.filterMap_nil, List.getElem?_toArray, List.getElem?_cons_succ, List.getElem?_cons_zero]
            refine' textI_chunk 7 (by kernel_rfl) hHeld ?ck6 ?cr6
            case ck6 =>
              intro W hSw
              have hSW := hSw
              try dsimp only at hSW
              clear hSw
              simp only [List.take_succ_cons, List.take_zero, List.drop_succ_cons, List.drop_zero]
              repeat (go_big_quiet_step (fail))
              exact wpQuiet_nil rfl
            simp only [List.take_succ_cons, List.take_zero, List.drop_succ_cons, List.drop_zero]
            refine textI_call (by rfl) (by rfl) (fun K hK => ?_)
            go_simp
            all_goals (try (gi_wp2_with fail))
            refine hK.out _ _ (by exact ⟨far_ y4 G1.out, far_ y3 G2.out, HC3.out⟩) (fun hHeld => ?_)
            clear hK K
            try simp only [Act.put, List.setIfInBounds_toArray, List.set_cons_zero, List.set_cons_succ]
            refine textI_done ?_
            clear hHeld
            gi_wp2
            have KX := (Keep.set (rs := [g]) (c := 0) X (b := g) (o := x) (by simp) (by omega) (.int .i64 v1)).trans (Keep.ext (Ext.refl _).drew.drew)
            refine ⟨KX, ?_, HKX.out.trans KX⟩
            rw [HSN.out]
            exact ArrI.ext (HAX.out.set x v1) (Ext.refl _).drew.drew
        case done =>
          rintro D ys X hD hS ⟨hAX, hKX⟩ hDW
          have HAX := Lib.hid (show ArrI X g 3 (turnTo row F (k + 1)).1 from by rw [HNX.out, HT1.out]; dsimp only; rw [← hS]; exact hAX)
          have hM5 := (HM6.out.keep (rs := []) (c := 0) (Keep.ext HE8.out) (by simp))
          have HMX := Lib.hid (Marks.cons (hM5.keepC hKX (fun r hr => by obtain rfl := List.mem_singleton.1 hr; exact .inr ⟨_, _, _, ArrI.ext HA6.out HE8.out⟩)) hM5 hD (by have := HK6.out.size; omega) hDW)
          have HKX := Lib.hid ((HK6.out.trans (Keep.ext HE8.out)).trans hKX)
          have HNX2 := Lib.hid ((HN6.out.ext HE8.out).keep hKX (by simp; omega) (by simp; omega) (by simp; omega))
          have HPK := Lib.hid (show pk1 = (turnTo row F (k + 1)).2 from by rw [HNX.out, HT1.out])
          clear hAX hKX hDW hM5 hS
          go_wp2
          exact ⟨N - 1, by omega, k + 1, pk1, _, by omega, Fr56.mk, HPK, HAX, HNX2, HKX, HMX⟩
      · have hp30 : (pk : Int) ≤ 30 := by omega
        have hp0 : (0 : Int) ≤ (pk : Int) := by omega
        go_upto_region 9 with fail
        obtain ⟨W6, hW6⟩ : ∃ W, W = (wl.setCell ⟨g, k, none⟩ (.int .i64 (pk : Int))).drew := ⟨_, rfl⟩
        have hK : Keep [g] 0 wl W6 := by rw [hW6]; exact (Keep.set (rs := [g]) (c := 0) wl (b := g) (o := k) (by simp) (by omega) _).trans (Keep.ext (Ext.refl _).drew)
        have HZ6 := Lib.hid (show W6.heap.size = wl.heap.size from by rw [hW6]; simp [World.setCell, World.drew])
        obtain ⟨t1, ht1⟩ : ∃ t1, t1 = t.set k (pk : Int) := ⟨_, rfl⟩
        obtain ⟨pk1, hp1⟩ : ∃ pk1, pk1 = pk + 1 := ⟨_, rfl⟩
        have HT1 := Lib.hid (show tOne F k (t, pk) = (t1, pk1) from by unfold tOne; rw [← HF1.out, ht1, hp1]; rfl)
        have HA6 := Lib.hid (show ArrI W6 g 3 t1 from by rw [ht1, hW6]; exact ArrI.ext (HAL.out.set k _) (Ext.refl _).drew)
        rw [← hW6, show ((pk : Int) + 1) = ((pk1 : Nat) : Int) from by rw [hp1]; omega]
        clear hW6 ht1 hp1 et el e1 em ew hfr hcell
        have HBN6 := Lib.hid (hK.boxed nbn HBN.out); have HBT6 := Lib.hid (hK.boxed nbt HBTL.out); have HBL6 := Lib.hid (hK.boxed (by simp; omega) HBL.out)
        have HN6 := Lib.hid (HNL.out.keep hK (by simp; omega) (by simp; omega) (by simp; omega))
        have HK6 := Lib.hid (HKL.out.trans hK)
        have HM6 := Lib.hid (HML.out.keepC hK (fun r hr => by obtain rfl := List.mem_singleton.1 hr; exact .inr ⟨_, _, _, HAL.out⟩))
        clear hK
        have z1 := HBN6.out.cell; have zl := HBL6.out.cell; have zw := HN6.out.net.wanted
        refine wp_region_order (fun X : World => X.cell? ⟨w.heap.size, 0, none⟩ = some (.pointer (some ⟨bn, 0, none⟩)) ∧ X.cell? ⟨bn, 0, none⟩ = some (.slice a n cap) ∧ X.cell? ⟨wr.heap.size, 0, none⟩ = some (.int .i64 (k : Int)) ∧ Hid (Ext W6 X)) [0, 1, 2, 3, 4, 5] (by kernel_rfl) (by kernel_rfl) (by exact ⟨z1, zw, zl, Lib.hid (Ext.refl _).drew⟩) (fun hHeld => ?_)
        simp only [opsIn, List.filterMap_cons, List.filterMap_nil, List.getElem?_toArray, List.getElem?_cons_succ, List.getElem?_cons_zero]
        refine' text_chunk 5 (by kernel_rfl) hHeld ?ck7 ?cr7
        case ck7 =>
          intro W hSw
          have hSW := hSw
          try dsimp only at hSW
          clear hSw
          simp only [List.take_succ_cons, List.take_zero, List.drop_succ_cons, List.drop_zero]
          repeat (go_big_quiet_step (fail))
          exact wpQuiet_nil rfl
        simp only [List.take_succ_cons, List.take_zero, List.drop_succ_cons, List.drop_zero]
        refine text_call (by rfl) (by rfl) (fun K hK => ?_)
        go_simp
        go_at_call 75
        refine (behind75 a n cap (k : Int) _).mono ?_
        rintro e w5 ⟨rfl, rfl⟩
        all_goals (try (go_wp2_with fail))
        refine hK.out _ _ (by exact ⟨cell_ext (behW_ext _ _ _) hHeld.1, cell_ext (behW_ext _ _ _) hHeld.2.1, cell_ext (behW_ext _ _ _) hHeld.2.2.1, Lib.hid (hHeld.2.2.2.out.trans (behW_ext _ _ _))⟩) (fun hHeld => ?_)
        clear hK K
        try simp only [Act.put, List.setIfInBounds_toArray, List.set_cons_zero, List.set_cons_succ]
        refine text_done ?_
        have HE8 := Lib.hid hHeld.2.2.2.out
        clear hHeld z1 zl zw
        have hz6 : W6.heap.size = wr.heap.size + 1 := by have := HZ6.out; omega
        have HSEQ := Lib.hid (behind_seq 11 n n cap k a row [g] 0 W6.drew (by omega) HN6.out.len (Nat.le_refl _) hlt2 (by omega) (fun X hX => HN6.out.row0.ext (Below.keep (HN6.out.base.drew) hX (by simp; omega))) (by simp; omega))
        have hzd : W6.drew.heap.size = W6.heap.size := rfl
        obtain ⟨W8, hW8⟩ : ∃ W8, W8 = behW W6.drew (.slice a n cap) (k : Int) := ⟨_, rfl⟩
        rw [← hW8] at HE8 HSEQ ⊢
        have hz8 : W8.heap.size = W6.heap.size + 5 := by rw [hW8, behW_size, hzd]
        clear hW8
        rw [hzd] at HSEQ
        have HZ66 := Lib.hid hz6; have HZ8 := Lib.hid hz8
        clear hz6 hz8 hzd
        go_wp2
        have hz6 := HZ66.out; have hz8 := HZ8.out
        refine wpIn_wide.1 (wp_seqAny1 (n := 12) (by omega) (gf := 94) (encs := encF fun x => x < n ∧ behB row k x = true) (ps := #[44]) (rs := [g]) (c := 0) rfl (enters_of Try.func94 (by kernel_rfl) rfl) HSEQ.out (Below.refl _ _) (fun _ => rfl) (by simp; omega)
          (fun p2 X => ArrI X g 3 (tIn row F k t1 (vF p2)) ∧ Keep [g] 0 W8 X) ?hIb ?h0b ?afb ?assignb ?bodyb ?doneb)
        case hIb =>
          rintro s A B rw ⟨h1, h2⟩ hg hr
          exact ⟨cells_turn h1 hg hr, ownFrom_keep (β := Unit) (Nat.le_refl _) (by simp; omega) () A B rw h2 hg hr⟩
        case h0b => exact ⟨ArrI.ext HA6.out HE8.out, Keep.refl _ _ _⟩
        case assignb =>
          rintro l2 x X K hK
          dsimp only [encF]
          gi_wp2
          exact hK
        case bodyb =>
          rintro l2 p2 x X hl2 ⟨hAX, hKX⟩ hlt3
          obtain ⟨x, hx1, hx2⟩ := x
          repeat (rename_i q; clear q)
          have hkx : k < x := by unfold behB at hx2; rw [Bool.and_eq_true] at hx2; exact of_decide_eq_true hx2.1
          have x100 : x ≤ 100 := by omega
          have y1 := hKX.cell nbn (boxed_later HBN6.out HE8.out).cell
          have y4 := hKX.cell nbt (boxed_later HBT6.out HE8.out).cell
          have y3 := hKX.cell (by simp; omega) (boxed_later HBL6.out HE8.out).cell
          have hNX := (HN6.out.ext HE8.out).keep hKX (by simp; omega) (by simp; omega) (by simp; omega)
          have y2 := hNX.net.flow
          obtain ⟨t', ht'⟩ : ∃ t', t' = tIn row F k t1 (vF p2) := ⟨_, rfl⟩
          have hsn : tIn row F k t1 (vF (p2 ++ [⟨x, hx1, hx2⟩])) = if inF F (aft k, bef x) then t'.set x (tAt t' k) else t' := by rw [vF_snoc, tIn_snoc, ht']
          rw [← ht'] at hAX
          have hl1 : t1.length = row.length := by
            have h1 := HT1.out; unfold tOne at h1
            split at h1 <;> · cases h1; simp [HTL.out]
          have hl' : t'.length = row.length := by rw [ht', tIn_len, hl1]
          have hnr := hNX.len
          have c1 := hAX.cell (p := k) (by omega)
          have c2 := hAX.cell (p := x) (by omega)
          have fz := hAX.frozen x
          obtain ⟨v1, hv1⟩ : ∃ v, v = tAt t' k := ⟨_, rfl⟩
          obtain ⟨v2, hv2⟩ : ∃ v, v = tAt t' x := ⟨_, rfl⟩
          rw [← hv1] at c1 hsn
          rw [← hv2] at c2
          obtain ⟨f2, hf2⟩ : ∃ f2, f2 = inF F (aft k, bef x) := ⟨_, rfl⟩
          rw [← hf2] at hsn
          have HF2 := Lib.hid hf2; have HSN := Lib.hid hsn; have HNX3 := Lib.hid hNX; have HAX := Lib.hid hAX; have HKX := Lib.hid hKX
          have hL : (Instr.lookup 73 (.map (some mf)) (.agg #[.int .i64 (aft k : Int), .int .i64 (bef x : Int)]) false).run Try.prog X.drew = .ok (.bool f2) X.drew := by
            have := (HNX3.out.flow.ext (Ext.refl X).drew).look (aft k, bef x) ⟨by simp [aft]; omega, by simp [bef]; omega⟩
            rw [← HF2.out] at this
            exact this
          have HL := Lib.hid hL
          have xk : ¬ g = w.heap.size := by omega
          have c3 := cell_set_ne X (b := g) (o := x) (o' := k) (fun e => by cases e; omega) (.int .i64 v1)
          have hx0 : (0 : Int) ≤ (x : Int) := by omega
          have hx3 : (x : Int) < (n : Int) := by omega
          have hxt : (x : Int).toNat = x := by omega
          have HC3 := Lib.hid (show (X.setCell ⟨g, x, none⟩ (.int .i64 v1)).cell? ⟨g, k, none⟩ = some (.int .i64 v1) from c3.trans c1)
          have G1 := Lib.hid (show g ≠ w2.heap.size from by omega); have G2 := Lib.hid (show g ≠ wr.heap.size from by omega)
          clear hf2 hsn hNX hAX hKX hL ht' hl1 hl' hnr hv1 hv2 hkx c3 xk HNX HT1
          clear hz6 hz8 hks
          gi_wp2
          refine wpIn_order (tk := takeB) (fun f => trivial) (fun Z : World => Z.cell? ⟨w.heap.size, 0, none⟩ = some (.pointer (some ⟨bn, 0, none⟩)) ∧ Z.cell? ⟨bn, 1, none⟩ = some (.map (some mf)) ∧ Z.cell? ⟨wr.heap.size, 0, none⟩ = some (.int .i64 (k : Int)) ∧ Hid (Ext X Z)) [0, 1, 2, 3, 4, 6, 5, 7, 8, 9] (by kernel_rfl) (by kernel_rfl) (by kernel_rfl) (by exact ⟨y1, y2, y3, Lib.hid (Ext.refl _).drew⟩) (fun hHeld => ?_)
          simp only [opsIn, List.filterMap_cons, List.filterMap_nil, List.getElem?_toArray, List.getElem?_cons_succ, List.getElem?_cons_zero]
          refine' textI_chunk 6 (by kernel_rfl) hHeld ?ck8 ?cr8
          case ck8 =>
            intro W hSw
            have hSW := hSw
            try dsimp only at hSW
            clear hSw
            simp only [List.take_succ_cons, List.take_zero, List.drop_succ_cons, List.drop_zero]
            repeat (go_big_quiet_step (fail))
            exact wpQuiet_nil rfl
          simp only [List.take_succ_cons, List.take_zero, List.drop_succ_cons, List.drop_zero]
          refine textI_call (by rfl) (by rfl) (fun K hK => ?_)
          go_simp
          refine ⟨trivial, (CallsIn.inRound l2 (callsIn_wide.2 (after76 k _ k100))).mono ?_⟩
          rintro e w5 ⟨rfl, rfl⟩
          all_goals (try (gi_wp2_with fail))
          refine hK.out _ _ (by exact hHeld) (fun hHeld => ?_)
          clear hK K
          try simp only [Act.put, List.setIfInBounds_toArray, List.set_cons_zero, List.set_cons_succ]
          refine textI_call (by rfl) (by rfl) (fun K hK => ?_)
          go_simp
          refine ⟨trivial, (CallsIn.inRound l2 (callsIn_wide.2 (before74 x _ x100))).mono ?_⟩
          rintro e w5 ⟨rfl, rfl⟩
          all_goals (try (gi_wp2_with fail))
          refine hK.out _ _ (by exact hHeld) (fun hHeld => ?_)
          clear hK K
          try simp only [Act.put, List.setIfInBounds_toArray, List.set_cons_zero, List.set_cons_succ]
          refine' textI_chunk 1 (by kernel_rfl) hHeld ?ck9 ?cr9
          case ck9 =>
            intro W hSw
            have hSW := hSw
            try dsimp only at hSW
            clear hSw
            simp only [List.take_succ_cons, List.take_zero, List.drop_succ_cons, List.drop_zero]
            repeat (go_big_quiet_step (fail))
            exact wpQuiet_nil rfl
          simp only [List.take_succ_cons, List.take_zero, List.drop_succ_cons, List.drop_zero]
          have hL := HL.out
          refine textI_call (by rfl) (by rfl) (fun K hK => ?_)
          go_simp
          refine hK.out _ _ (by exact hHeld) (fun hHeld => ?_)
          clear hK K hL
          try simp only [Act.put, List.setIfInBounds_toArray, List.set_cons_zero, List.set_cons_succ]
          refine textI_done ?_
          clear hHeld
          cases f2
          · gi_wp2
            refine ⟨Keep.ext (Ext.refl X).drew, ?_, HKX.out.trans (Keep.ext (Ext.refl X).drew)⟩
            rw [HSN.out]
            exact ArrI.ext HAX.out (Ext.refl X).drew
          · gi_wp2
            refine wpIn_order (tk := takeB) (fun f => trivial) (fun Z : World => Z.cell? ⟨w2.heap.size, 0, none⟩ = some (.slice (some ⟨g, 0, none⟩) n n) ∧ Z.cell? ⟨wr.heap.size, 0, none⟩ = some (.int .i64 (k : Int)) ∧ Z.cell? ⟨g, k, none⟩ = some (.int .i64 v1)) [0, 1, 2, 3, 4, 5, 6, 7] (by kernel_rfl) (by kernel_rfl) (by kernel_rfl) (by exact ⟨y4, y3, c1⟩) (fun hHeld => ?_)
            simp only [opsIn, List.filterMap_cons, List.filterMap_nil, List.getElem?_toArray, List.getElem?_cons_succ, List.getElem?_cons_zero]
            refine' textI_chunk 7 (by kernel_rfl) hHeld ?ck10 ?cr10
            case ck10 =>
              intro W hSw
              have hSW := hSw
              try dsimp only at hSW
              clear hSw
              simp only [List.take_succ_cons, List.take_zero, List.drop_succ_cons, List.drop_zero]
              repeat (go_big_quiet_step (fail))
              exact wpQuiet_nil rfl
            simp only [List.take_succ_cons, List.take_zero, List.drop_succ_cons, List.drop_zero]
            refine textI_call (by rfl) (by rfl) (fun K hK => ?_)
            go_simp
            all_goals (try (gi_wp2_with fail))
            refine hK.out _ _ (by exact ⟨far_ y4 G1.out, far_ y3 G2.out, HC3.out⟩) (fun hHeld => ?_)
            clear hK K
            try simp only [Act.put, List.setIfInBounds_toArray, List.set_cons_zero, List.set_cons_succ]
            refine textI_done ?_
            clear hHeld
            gi_wp2
            have KX := (Keep.set (rs := [g]) (c := 0) X (b := g) (o := x) (by simp) (by omega) (.int .i64 v1)).trans (Keep.ext (Ext.refl _).drew.drew)
            refine ⟨KX, ?_, HKX.out.trans KX⟩
            rw [HSN.out]
            exact ArrI.ext (HAX.out.set x v1) (Ext.refl _).drew.drew
        case doneb =>
          rintro D ys X hD hS ⟨hAX, hKX⟩ hDW
          have HAX := Lib.hid (show ArrI X g 3 (turnTo row F (k + 1)).1 from by rw [HNX.out, HT1.out]; dsimp only; rw [← hS]; exact hAX)
          have hM5 := (HM6.out.keep (rs := []) (c := 0) (Keep.ext HE8.out) (by simp))
          have HMX := Lib.hid (Marks.cons (hM5.keepC hKX (fun r hr => by obtain rfl := List.mem_singleton.1 hr; exact .inr ⟨_, _, _, ArrI.ext HA6.out HE8.out⟩)) hM5 hD (by have := HK6.out.size; omega) hDW)
          have HKX := Lib.hid ((HK6.out.trans (Keep.ext HE8.out)).trans hKX)
          have HNX2 := Lib.hid ((HN6.out.ext HE8.out).keep hKX (by simp; omega) (by simp; omega) (by simp; omega))
          have HPK := Lib.hid (show pk1 = (turnTo row F (k + 1)).2 from by rw [HNX.out, HT1.out])
          clear hAX hKX hDW hM5 hS
          go_wp2
          exact ⟨N - 1, by omega, k + 1, pk1, _, by omega, Fr56.mk, HPK, HAX, HNX2, HKX, HMX⟩
    · obtain rfl : k = n := by omega
      have HAF := Lib.hid (show ArrI wr g 3 (turnM row F) from by have := hAR.out; rw [hNA.out.len] at this; exact this)
      clear hPK hAR
      go_wp2
      have HEX := Lib.hid (Below.keep HE3.out hKP.out (by simp; omega))
      have hlt9 : (turnM row F).length = k := by unfold turnM; rw [turnTo_len]; exact hNA.out.len.symm
      refine marks_leaveJ (base := W3.heap.size) (fun X => ArrI X g 3 (turnM row F) ∧ Ext w X) ?_ _ _ _ (by simp) ⟨HAF.out, HEX.out⟩ hMK.out (fun W' hj => ⟨.slice (some ⟨g, 0, none⟩) k k, by simp [results, Try.results56, go_sem], ⟨g, by omega, by rw [hlt9], hj.1, hj.2⟩⟩)
      rintro X D ⟨hj1, hj2⟩ hD -
      refine ⟨?_, ⟨hj2.os, hj2.tape, hj2.output, by have := hj2.size; simpa [World.putObj] using this, fun q hq => by rw [World.putObj_heap_other (by omega)]; exact hj2.block q hq⟩⟩
      unfold ArrI at hj1 ⊢
      rw [World.putObj_heap_other (by omega)]; exact hj1
end Go.Proofs.Ytclcippfodjfeaa
