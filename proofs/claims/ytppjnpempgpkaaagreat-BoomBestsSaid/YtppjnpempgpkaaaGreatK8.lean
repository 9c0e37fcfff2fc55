/- CheckChain, Enclosed, Area, by their contracts. Boxes: their iterator, only, best, Most, by their contracts. best over boxes, Most, by their contracts. Most, by its contract. -/
import Derived.Test.YtppjnpempgpkaaaGreatK4
import Derived.Test.YtppjnpempgpkaaaGreatB2
import Derived.Test.YtppjnpempgpkaaaGreatN1
import Derived.Lib.ConvBytes
import Derived.Lib.Bytealg
import Derived.Laws.Externs
namespace Go.Proofs.YtppjnpempgpkaaaGreat
open Go.RowKit Go.Shelf
set_option linter.unusedVariables false
set_option linter.unusedSimpArgs false
attribute [local go_sem] Oper.semAt_some

theorem cells3 {X : World} {b : Nat} {v0 v1 v2 : Value} {t : TypeId} {fr : Nat × Nat} (h : X.heap[b]? = some (.cells #[v0, v1, v2] t fr)) : X.cell? ⟨b, 0, none⟩ = some v0 ∧ X.cell? ⟨b, 1, none⟩ = some v1 ∧ X.cell? ⟨b, 2, none⟩ = some v2 :=
  ⟨cell_of_blk h rfl, cell_of_blk h rfl, cell_of_blk h rfl⟩
/-- The error of a chain. -/
def chkC (X Y : Int) (s : ByteArray) : Int :=
  if inn 4 80 [(s.size : Int)] = false then 6 else if s.data.toList.all okL = false then 8 else if (ptsW (X, Y) (dirs s)).all onB' = false then 3
  else if (decide ((ptsW (X, Y) (dirs s)).tail.Nodup) && decide (finW (X, Y) (dirs s) = (X, Y))) = false then 19 else 0
set_option maxRecDepth 100000 in
set_option maxHeartbeats 1000000 in
theorem checkChain_c (X Y : Int) (s : ByteArray) (w : World) :
    Calls Tryz.prog 40 #[.agg #[.int .i64 X, .int .i64 Y, .string s]] w fun e w' => e = .returned (.int .i64 (chkC X Y s)) ∧ Ext w w' := by
  obtain ⟨n, hn⟩ : ∃ n, n = s.size := ⟨_, rfl⟩
  have E0 := Lib.hid (((Ext.refl w).alloc (.cells #[.int .i64 X, .int .i64 Y, .string s] 63)).alloc (.cells #[.int .i64 X, .int .i64 Y, .string s] 97))
  obtain ⟨b1, hb1⟩ : ∃ b1, b1 = inn 4 80 [(s.size : Int)] := ⟨_, rfl⟩
  obtain ⟨b2, hb2⟩ : ∃ b2, b2 = s.data.toList.all okL := ⟨_, rfl⟩
  obtain ⟨b3, hb3⟩ : ∃ b3, b3 = (ptsW (X, Y) (dirs s)).all onB' := ⟨_, rfl⟩
  obtain ⟨b4, hb4⟩ : ∃ b4, b4 = (decide ((ptsW (X, Y) (dirs s)).tail.Nodup) && decide (finW (X, Y) (dirs s) = (X, Y))) := ⟨_, rfl⟩
  have hc : chkC X Y s = if b1 = false then 6 else if b2 = false then 8 else if b3 = false then 3 else if b4 = false then 19 else 0 := by rw [hb1, hb2, hb3, hb4]; rfl
  rw [hc]
  clear hc
  have HN := Lib.hid hn; have H1 := Lib.hid hb1; have H2 := Lib.hid hb2; have H3 := Lib.hid hb3; have H4 := Lib.hid hb4
  have hcv := conv_bytes s
  simp only [← hn] at hcv
  clear hn hb1 hb2 hb3 hb4
  have HCV := Lib.hid hcv
  clear hcv
  go_enter Tryz.func40, Tryz.ntmps40
  go_wp2_with (fail)
  refine (within1 4 80 s.size _ _ (by simp)).mono ?_
  intro e w1 h1
  obtain ⟨h1, h2⟩ := h1
  subst h1
  rw [← H1.out]
  have hE1 : Ext w w1 := by rw [← h2]; exact E0.out.alloc _
  have B0 := Lib.hid (show w1.heap[w.heap.size]? = some (.cells #[.int .i64 X, .int .i64 Y, .string s] 63 (0, 0)) from by rw [← h2]; exact block_ext (((Ext.refl _).alloc _).alloc _) (heap_alloc_new w _))
  have B1 := Lib.hid (show w1.heap[w.heap.size + 1]? = some (.cells #[.int .i64 X, .int .i64 Y, .string s] 97 (0, 0)) from by rw [← h2]; exact block_ext ((Ext.refl _).alloc _) (heap_alloc_at _ _ (by simp)))
  have HE1 := Lib.hid hE1
  clear h2 E0 hE1
  cases b1
  · go_wp2
    go_ret
    exact ⟨rfl, HE1.out⟩
  have hsz : n ≤ 80 ∧ 4 ≤ n := by
    have := inn_one.1 H1.out.symm
    have h3 := HN.out
    omega
  have hs2 : s.size ≤ 200 := by have := HN.out; omega
  have hs0 : 0 < s.size := by have := HN.out; omega
  have hdl : n = s.data.toList.length := by rw [HN.out]; simp
  have hn63 : n ≤ 9223372036854775807 := by omega
  obtain ⟨c0, c1, c2⟩ : w1.cell? ⟨w.heap.size, 0, none⟩ = some (.int .i64 X) ∧ w1.cell? ⟨w.heap.size, 1, none⟩ = some (.int .i64 Y) ∧ w1.cell? ⟨w.heap.size, 2, none⟩ = some (.string s) := ⟨cell_of_blk B0.out rfl, cell_of_blk B0.out rfl, cell_of_blk B0.out rfl⟩
  have HEV := Lib.hid (fun (W : World) (cap : Nat) => every_bytes s.data.toList W.heap.size n cap (Lib.bytesWorld W 5 s) hdl (by omega) (fun i b hb => by
    have hi : i < s.size := by have := (List.getElem?_eq_some_iff.1 hb).1; simpa using this
    have h := Lib.bytesWorld_cell W 5 s i hi
    rw [h]
    have hb2 : s.data.toList.getD i 0 = b := by rw [List.getD_eq_getElem?_getD, hb]; rfl
    rw [hb2]))
  rw [← H2.out] at HEV
  have HST := Lib.hid (fun W => staysWithin_c X Y s W hs2)
  rw [← H3.out] at HST
  have HCL := Lib.hid (fun W h => isClosed_c X Y s W hs2 hs0 h)
  rw [← H4.out, ← H3.out] at HCL
  have hcv := HCV.out
  clear HCV H1 hdl hs2 hs0 HN
  cases b2
  · go_wp2_with (first | (go_at_call 69; refine Calls.mono (HEV.out w1 _) ?_; intro e w2 h1; obtain ⟨h1, hE⟩ := h1; subst h1; have HE2 := Lib.hid ((HE1.out.trans (ext_bytes w1 _ s)).trans hE); have B2 := Lib.hid (block_ext ((ext_bytes w1 5 s).trans hE) B1.out); clear hE; obtain ⟨d0, d1, d2⟩ := cells3 B2.out) | fail)
    go_ret
    exact ⟨rfl, HE2.out⟩
  cases b3
  · go_wp2_with (first | (go_at_call 69; refine Calls.mono (HEV.out w1 _) ?_; intro e w2 h1; obtain ⟨h1, hE⟩ := h1; subst h1; have HE2 := Lib.hid ((HE1.out.trans (ext_bytes w1 _ s)).trans hE); have B2 := Lib.hid (block_ext ((ext_bytes w1 5 s).trans hE) B1.out); clear hE; obtain ⟨d0, d1, d2⟩ := cells3 B2.out) | (go_at_call 71; refine Calls.mono (HST.out _) ?_; intro e w3 h1; obtain ⟨h1, hE⟩ := h1; subst h1; have HE3 := Lib.hid (HE2.out.trans hE); have B3 := Lib.hid (block_ext hE B2.out); clear hE d0 d1 d2; obtain ⟨d0, d1, d2⟩ := cells3 B3.out) | fail)
    go_ret
    exact ⟨rfl, HE3.out⟩
  cases b4
  · go_wp2_with (first | (go_at_call 69; refine Calls.mono (HEV.out w1 _) ?_; intro e w2 h1; obtain ⟨h1, hE⟩ := h1; subst h1; have HE2 := Lib.hid ((HE1.out.trans (ext_bytes w1 _ s)).trans hE); have B2 := Lib.hid (block_ext ((ext_bytes w1 5 s).trans hE) B1.out); clear hE; obtain ⟨d0, d1, d2⟩ := cells3 B2.out) | (go_at_call 71; refine Calls.mono (HST.out _) ?_; intro e w3 h1; obtain ⟨h1, hE⟩ := h1; subst h1; have HE3 := Lib.hid (HE2.out.trans hE); have B3 := Lib.hid (block_ext hE B2.out); clear hE d0 d1 d2; obtain ⟨d0, d1, d2⟩ := cells3 B3.out) | (go_at_call 72; refine Calls.mono (HCL.out _ (by trivial)) ?_; intro e w4 h1; obtain ⟨h1, hE⟩ := h1; subst h1; have HE4 := Lib.hid (HE3.out.trans hE); clear hE) | fail)
    go_ret
    exact ⟨rfl, HE4.out⟩
  · go_wp2_with (first | (go_at_call 69; refine Calls.mono (HEV.out w1 _) ?_; intro e w2 h1; obtain ⟨h1, hE⟩ := h1; subst h1; have HE2 := Lib.hid ((HE1.out.trans (ext_bytes w1 _ s)).trans hE); have B2 := Lib.hid (block_ext ((ext_bytes w1 5 s).trans hE) B1.out); clear hE; obtain ⟨d0, d1, d2⟩ := cells3 B2.out) | (go_at_call 71; refine Calls.mono (HST.out _) ?_; intro e w3 h1; obtain ⟨h1, hE⟩ := h1; subst h1; have HE3 := Lib.hid (HE2.out.trans hE); have B3 := Lib.hid (block_ext hE B2.out); clear hE d0 d1 d2; obtain ⟨d0, d1, d2⟩ := cells3 B3.out) | (go_at_call 72; refine Calls.mono (HCL.out _ (by trivial)) ?_; intro e w4 h1; obtain ⟨h1, hE⟩ := h1; subst h1; have HE4 := Lib.hid (HE3.out.trans hE); clear hE) | fail)
    go_ret
    exact ⟨rfl, HE4.out⟩
theorem OwnI.weakB {e B C : Nat} {w : World} {v : Value} {xs : List Int} (h : OwnI e B w v xs) (hb : C ≤ B) : OwnI e C w v xs := by
  obtain ⟨q1, q2⟩ := h
  refine ⟨q1, q2.imp id ?_⟩
  rintro ⟨g, cap, cur, rfl, hgb, r⟩
  exact ⟨g, cap, cur, rfl, Nat.le_trans hb hgb, r⟩
/-- What a chain without an error is. -/
theorem chk0 {X Y : Int} {s : ByteArray} (h : chkC X Y s = 0) : (4 ≤ s.size ∧ s.size ≤ 80) ∧ (∀ k ∈ dirs s, k < 4) ∧ ptsW (X, Y) (dirs s) = pts (X, Y) (dirs s) ∧ (∀ q ∈ pts (X, Y) (dirs s), onB q) ∧ clsd (X, Y) (dirs s) = true := by
  unfold chkC at h
  by_cases h1 : inn 4 80 [(s.size : Int)] = false
  · rw [if_pos h1] at h; cases h
  rw [if_neg h1] at h
  by_cases h2 : s.data.toList.all okL = false
  · rw [if_pos h2] at h; cases h
  rw [if_neg h2] at h
  by_cases h3 : (ptsW (X, Y) (dirs s)).all onB' = false
  · rw [if_pos h3] at h; cases h
  rw [if_neg h3] at h
  by_cases h4 : (decide ((ptsW (X, Y) (dirs s)).tail.Nodup) && decide (finW (X, Y) (dirs s) = (X, Y))) = false
  · rw [if_pos h4] at h; cases h
  rw [Bool.not_eq_false] at h1 h2 h3 h4
  have hs := inn_one.1 h1
  have hon : ∀ q ∈ ptsW (X, Y) (dirs s), onB q := fun q hq => by
    have := List.all_eq_true.1 h3 q hq
    unfold onB' at this
    unfold onB
    exact of_decide_eq_true this
  have hxy := hon (X, Y) (by
    cases dirs s <;> simp [ptsW])
  have hlen := dirs_len s
  have hpt : ptsW (X, Y) (dirs s) = pts (X, Y) (dirs s) := ptsW_is _ _ 8 (by omega) (by unfold onB at hxy; dsimp only at hxy ⊢; omega)
  have hfin : finW (X, Y) (dirs s) = fin (X, Y) (dirs s) := by
    have e1 := ptsW_last (X, Y) (dirs s)
    rw [hpt, pts_last] at e1
    exact (Option.some.inj e1).symm
  refine ⟨by omega, fun k hk => ?_, hpt, fun q hq => hon q (by rw [hpt]; exact hq), ?_⟩
  · unfold dirs at hk
    obtain ⟨b, hb, rfl⟩ := List.mem_map.1 hk
    have := List.all_eq_true.1 h2 b hb
    unfold okL at this
    exact of_decide_eq_true this
  · rw [clsd_later (by intro e; rw [e] at hlen; simp at hlen; omega), ← hpt, ← hfin]
    exact h4
theorem on_sts {p : Pt} {ks : List Nat} (h : ∀ q ∈ pts p ks, onB q) : ∀ s ∈ sts p ks, onB s.1 := fun s hs => h s.1 (by rw [pts_eq]; exact List.mem_append_left _ (List.mem_map_of_mem hs))
/-- The water of a chain without an error. -/
theorem water_ok (X Y : Int) (s : ByteArray) (w : World) (h : chkC X Y s = 0) :
    Calls Tryz.prog 73 #[.agg #[.int .i64 X, .int .i64 Y, .string s]] w fun e w' => ∃ A rd, e = .returned (.tuple #[.agg A, .bool (lftB (sts (X, Y) (dirs s)))]) ∧ IsRaft A 8 8 (.slice none 0 0) (.slice none 0 0) rd ∧ cellsR 64 rd = encl (sts (X, Y) (dirs s)) ∧ Ext w w' := by
  obtain ⟨h1, h2, h3, h4, h5⟩ := chk0 h
  have hlen := dirs_len s
  have hlp := clsd_lp h2 (by omega) h5
  have hr := rnd_of (X, Y) (dirs s) h2 (by omega) (by omega) h4
  rw [← h3] at hr
  refine (water_c X Y s w (by omega) _ _ hr).mono ?_
  rintro e w' ⟨A, rd, rfl, hA, hi, hE⟩
  have hW : ∀ c, RW (X, Y) (dirs s) (dirs s).length c = Wd (sts (X, Y) (dirs s)) (cx c) (cy c) := fun c => by rw [RW_all, hlp.rw8]
  refine ⟨A, rd, by rw [show (fun c => decide (0 < RW (X, Y) (dirs s) (dirs s).length c)) = fun c => decide (0 < Wd (sts (X, Y) (dirs s)) (cx c) (cy c)) from funext fun c => by rw [hW]]; rfl, hA, ?_, hE⟩
  unfold cellsR encl
  refine List.filter_congr fun c hc => ?_
  rw [hi c (List.mem_range.1 hc), hW]
  unfold wat
  simp
set_option maxRecDepth 100000 in
set_option maxHeartbeats 1000000 in
theorem enclosed_no (X Y : Int) (s : ByteArray) (w : World) (h : chkC X Y s ≠ 0) :
    Calls Tryz.prog 41 #[.agg #[.int .i64 X, .int .i64 Y, .string s]] w fun e w' => e = .returned (.tuple #[.slice none 0 0, .int .i64 (chkC X Y s)]) ∧ Ext w w' := by
  have E0 := Lib.hid ((Ext.refl w).alloc (.cells #[.int .i64 X, .int .i64 Y, .string s] 63))
  have B0 := Lib.hid (heap_alloc_new w (.cells #[.int .i64 X, .int .i64 Y, .string s] 63))
  obtain ⟨x, hx⟩ : ∃ x, chkC X Y s = x := ⟨_, rfl⟩
  rw [hx] at h ⊢
  have HC := Lib.hid hx
  clear hx
  have hq : (x != 0) = true := by simp [h]
  have hq2 : decide (x = 0) = false := decide_eq_false h
  clear h
  go_enter Tryz.func41, Tryz.ntmps41
  go_wp2_with (first | (go_at_call 40; refine Calls.mono (checkChain_c X Y s _) ?_; intro e w2 h1; obtain ⟨h1, hE⟩ := h1; rw [HC.out] at h1; subst h1; have HE2 := Lib.hid (E0.out.trans hE); have B2 := Lib.hid (block_ext hE B0.out); clear hE; obtain ⟨d0, d1, d2⟩ := cells3 B2.out) | fail)
  refine bodyPost_ret (by first | (simp [results, Tryz.results41, go_sem]; done) | (simp [results, Tryz.results41, go_sem]; rfl)) rfl ?_
  exact ⟨rfl, HE2.out⟩
set_option maxRecDepth 100000 in
set_option maxHeartbeats 1000000 in
theorem enclosed_ok (X Y : Int) (s : ByteArray) (w : World) (h : chkC X Y s = 0) :
    Calls Tryz.prog 41 #[.agg #[.int .i64 X, .int .i64 Y, .string s]] w fun e w' => ∃ u, e = .returned (.tuple #[u, .int .i64 0]) ∧ OwnI 3 w.heap.size w' u (natI (encl (sts (X, Y) (dirs s)))) ∧ Ext w w' := by
  have E0 := Lib.hid ((Ext.refl w).alloc (.cells #[.int .i64 X, .int .i64 Y, .string s] 63))
  have B0 := Lib.hid (heap_alloc_new w (.cells #[.int .i64 X, .int .i64 Y, .string s] 63))
  have HC := Lib.hid h; have HC0 := Lib.hid h
  clear h
  obtain ⟨lb, hlb⟩ : ∃ lb, lftB (sts (X, Y) (dirs s)) = lb := ⟨_, rfl⟩
  have HLB := Lib.hid hlb
  skip
  clear hlb
  go_enter Tryz.func41, Tryz.ntmps41
  go_wp2_with (first | (go_at_call 40; refine Calls.mono (checkChain_c X Y s _) ?_; intro e w2 h1; obtain ⟨h1, hE⟩ := h1; rw [HC.out] at h1; subst h1; have HE2 := Lib.hid (E0.out.trans hE); have B2 := Lib.hid (block_ext hE B0.out); clear hE; obtain ⟨d0, d1, d2⟩ := cells3 B2.out) | (go_at_call 73; refine Calls.mono (water_ok X Y s _ HC0.out) ?_; intro e w3 h1; obtain ⟨A, rd, h1, hA, hcl, hE⟩ := h1; rw [HLB.out] at h1; subst h1; have HE3 := Lib.hid (HE2.out.trans hE); have HA := Lib.hid hA; have HCL := Lib.hid hcl; clear hE hA hcl d0 d1 d2) | (refine wp_newRow rfl rfl 78 5 (.tmp 16) rfl rfl rfl alloc_raft A HA.out.info (by rw [HA.out.size]; rfl) HA.out.one rfl rfl ?_; intro W4 hb4 hE4 hz4; have HB4 := Lib.hid hb4; have HE4 := Lib.hid (HE3.out.trans hE4); clear hb4 hE4 hz4) | (refine wpList_load_row rfl 78 _ rfl _ rfl _ _ _ _ HB4.out Tryz.underlying78 rfl HA.out.info ?_) | (go_at_call 49; refine Calls.mono (cells_c 8 8 0 0 0 0 none none HA.out (by omega) (by omega) _) ?_; intro e w5 h1; obtain ⟨u, h1, hu, hE⟩ := h1; subst h1; have HE5 := Lib.hid (HE4.out.trans hE); rw [show 8 * 8 = 64 from rfl, HCL.out] at hu; skip; have HU := Lib.hid (OwnI.weakB hu HE4.out.size); clear hE hu) | fail)
  refine bodyPost_ret (by first | (simp [results, Tryz.results41, go_sem]; done) | (simp [results, Tryz.results41, go_sem]; rfl)) rfl ?_
  exact ⟨u, rfl, HU.out, HE5.out⟩
set_option maxRecDepth 100000 in
set_option maxHeartbeats 1000000 in
theorem area_no (X Y : Int) (s : ByteArray) (w : World) (h : chkC X Y s ≠ 0) :
    Calls Tryz.prog 42 #[.agg #[.int .i64 X, .int .i64 Y, .string s]] w fun e w' => e = .returned (.tuple #[.int .i64 0, .bool false, .int .i64 (chkC X Y s)]) ∧ Ext w w' := by
  have E0 := Lib.hid ((Ext.refl w).alloc (.cells #[.int .i64 X, .int .i64 Y, .string s] 63))
  have B0 := Lib.hid (heap_alloc_new w (.cells #[.int .i64 X, .int .i64 Y, .string s] 63))
  obtain ⟨x, hx⟩ : ∃ x, chkC X Y s = x := ⟨_, rfl⟩
  rw [hx] at h ⊢
  have HC := Lib.hid hx
  clear hx
  have hq : (x != 0) = true := by simp [h]
  have hq2 : decide (x = 0) = false := decide_eq_false h
  clear h
  go_enter Tryz.func42, Tryz.ntmps42
  go_wp2_with (first | (go_at_call 40; refine Calls.mono (checkChain_c X Y s _) ?_; intro e w2 h1; obtain ⟨h1, hE⟩ := h1; rw [HC.out] at h1; subst h1; have HE2 := Lib.hid (E0.out.trans hE); have B2 := Lib.hid (block_ext hE B0.out); clear hE; obtain ⟨d0, d1, d2⟩ := cells3 B2.out) | fail)
  refine bodyPost_ret (by first | (simp [results, Tryz.results42, go_sem]; done) | (simp [results, Tryz.results42, go_sem]; rfl)) rfl ?_
  exact ⟨rfl, HE2.out⟩
set_option maxRecDepth 100000 in
set_option maxHeartbeats 1000000 in
theorem area_ok (X Y : Int) (s : ByteArray) (w : World) (h : chkC X Y s = 0) :
    Calls Tryz.prog 42 #[.agg #[.int .i64 X, .int .i64 Y, .string s]] w fun e w' => e = .returned (.tuple #[.int .i64 ((encl (sts (X, Y) (dirs s))).length : Int), .bool (lftB (sts (X, Y) (dirs s))), .int .i64 0]) ∧ Ext w w' := by
  have E0 := Lib.hid ((Ext.refl w).alloc (.cells #[.int .i64 X, .int .i64 Y, .string s] 63))
  have B0 := Lib.hid (heap_alloc_new w (.cells #[.int .i64 X, .int .i64 Y, .string s] 63))
  have HC := Lib.hid h; have HC0 := Lib.hid h
  clear h
  obtain ⟨lb, hlb⟩ : ∃ lb, lftB (sts (X, Y) (dirs s)) = lb := ⟨_, rfl⟩
  have HLB := Lib.hid hlb
  rw [hlb]
  clear hlb
  go_enter Tryz.func42, Tryz.ntmps42
  go_wp2_with (first | (go_at_call 40; refine Calls.mono (checkChain_c X Y s _) ?_; intro e w2 h1; obtain ⟨h1, hE⟩ := h1; rw [HC.out] at h1; subst h1; have HE2 := Lib.hid (E0.out.trans hE); have B2 := Lib.hid (block_ext hE B0.out); clear hE; obtain ⟨d0, d1, d2⟩ := cells3 B2.out) | (go_at_call 73; refine Calls.mono (water_ok X Y s _ HC0.out) ?_; intro e w3 h1; obtain ⟨A, rd, h1, hA, hcl, hE⟩ := h1; rw [HLB.out] at h1; subst h1; have HE3 := Lib.hid (HE2.out.trans hE); have HA := Lib.hid hA; have HCL := Lib.hid hcl; clear hE hA hcl d0 d1 d2) | (refine wp_newRow rfl rfl 78 6 (.tmp 17) rfl rfl rfl alloc_raft A HA.out.info (by rw [HA.out.size]; rfl) HA.out.one rfl rfl ?_; intro W4 hb4 hE4 hz4; have HB4 := Lib.hid hb4; have HE4 := Lib.hid (HE3.out.trans hE4); clear hb4 hE4 hz4) | (refine wpList_load_row rfl 78 _ rfl _ rfl _ _ _ _ HB4.out Tryz.underlying78 rfl HA.out.info ?_) | (go_at_call 49; refine Calls.mono (cells_c 8 8 0 0 0 0 none none HA.out (by omega) (by omega) _) ?_; intro e w5 h1; obtain ⟨u, h1, hu, hE⟩ := h1; subst h1; have HE5 := Lib.hid (HE4.out.trans hE); rw [show 8 * 8 = 64 from rfl, HCL.out] at hu; obtain ⟨av, cap, hv⟩ := own_shape hu; subst hv; rw [natI_len] at hu ⊢; have HU := Lib.hid (OwnI.weakB hu HE4.out.size); clear hE hu) | fail)
  refine bodyPost_ret (by first | (simp [results, Tryz.results42, go_sem]; done) | (simp [results, Tryz.results42, go_sem]; rfl)) rfl ?_
  exact ⟨rfl, HE5.out⟩
end Go.Proofs.YtppjnpempgpkaaaGreat
namespace Go.Proofs.YtppjnpempgpkaaaGreat
open Go.RowKit Go.Shelf
set_option linter.unusedVariables false
set_option linter.unusedSimpArgs false
attribute [local go_sem] Oper.semAt_some

abbrev BoxT := Nat × Nat
def encP (p : BoxT) : Array Value := #[.agg #[.int .i64 (p.1 : Int), .int .i64 (p.2 : Int)]]
/-- All boxes up to one. -/
def bxs (W H : Nat) : List BoxT := (List.range (W * H)).map fun k => (k / H + 1, k % H + 1)
theorem bxs_len (W H : Nat) : (bxs W H).length = W * H := by simp [bxs]
theorem bxs_at {W H i j : Nat} (hi : i < W) (hj : j < H) : (bxs W H)[i * H + j]? = some (i + 1, j + 1) := by
  have h1 : i * H + j < W * H := by
    have : (i + 1) * H ≤ W * H := Nat.mul_le_mul_right H hi
    rw [Nat.add_mul] at this
    omega
  unfold bxs
  rw [List.getElem?_map, List.getElem?_range h1]
  have h2 : (i * H + j) / H = i := by rw [Nat.mul_comm, Nat.mul_add_div (by omega), Nat.div_eq_of_lt hj, Nat.add_zero]
  have h3 : (i * H + j) % H = j := by rw [Nat.mul_comm, Nat.mul_add_mod, Nat.mod_eq_of_lt hj]
  show some ((i * H + j) / H + 1, (i * H + j) % H + 1) = _
  rw [h2, h3]
theorem bxs_mem {W H : Nat} {p : BoxT} (h : p ∈ bxs W H) : (1 ≤ p.1 ∧ p.1 ≤ W) ∧ 1 ≤ p.2 ∧ p.2 ≤ H := by
  unfold bxs at h
  obtain ⟨k, hk, rfl⟩ := List.mem_map.1 h
  have hk := List.mem_range.1 hk
  have hH : 0 < H := Nat.pos_of_ne_zero fun e => by rw [e] at hk; simp at hk
  have h1 : k / H < W := by rw [Nat.div_lt_iff_lt_mul hH]; exact hk
  have h2 : k % H < H := Nat.mod_lt _ hH
  exact ⟨⟨Nat.le_add_left _ _, h1⟩, Nat.le_add_left _ _, h2⟩
theorem boxCells_c (p : BoxT) (hp : p.1 ≤ 8 ∧ p.2 ≤ 8) (w : World) : Calls Tryz.prog 79 #[.agg #[.int .i64 (p.1 : Int), .int .i64 (p.2 : Int)]] w fun e w' => e = .returned (.int .i64 ((p.1 * p.2 : Nat) : Int)) ∧ Ext w w' := by
  obtain ⟨a, b⟩ := p
  dsimp only at hp ⊢
  have E0 := Lib.hid ((Ext.refl w).alloc (.cells #[.int .i64 (a : Int), .int .i64 (b : Int)] 105))
  obtain ⟨c, hc⟩ : ∃ c, c = a * b := ⟨_, rfl⟩
  have hcb : c ≤ 64 := by rw [hc]; exact Nat.mul_le_mul hp.1 hp.2
  have hw : wrap64 ((a : Int) * (b : Int)) = (c : Int) := by
    rw [wrap_eq, ← Int.natCast_mul, ← hc]; exact wrapi64 _ (by omega) (by omega)
  have hw2 : IntKind.i64.wrap ((a : Int) * (b : Int)) = (c : Int) := by rw [← wrap_eq]; exact hw
  rw [← hc]
  clear hc hp hcb
  go_enter Tryz.func79, Tryz.ntmps79
  go_wp2
  go_ret
  exact ⟨rfl, E0.out⟩
theorem boxSticks_c (p : BoxT) (hp : p.1 ≤ 8 ∧ p.2 ≤ 8) (w : World) : Calls Tryz.prog 75 #[.agg #[.int .i64 (p.1 : Int), .int .i64 (p.2 : Int)]] w fun e w' => e = .returned (.int .i64 ((2 * (p.1 + p.2) : Nat) : Int)) ∧ Ext w w' := by
  obtain ⟨a, b⟩ := p
  dsimp only at hp ⊢
  have E0 := Lib.hid ((Ext.refl w).alloc (.cells #[.int .i64 (a : Int), .int .i64 (b : Int)] 105))
  have hw : ((2 * (a + b) : Nat) : Int) = 2 * ((a : Int) + (b : Int)) := by push_cast; rfl
  rw [hw]
  have ha : (a : Int) ≤ 8 := by omega
  have hb : (b : Int) ≤ 8 := by omega
  clear hp hw
  go_enter Tryz.func75, Tryz.ntmps75
  go_wp2
  go_ret
  exact ⟨rfl, E0.out⟩
theorem boxes_c (x y : Int) (w : World) : Calls Tryz.prog 78 #[.int .i64 x, .int .i64 y] w fun e w' =>
    e = .returned (.func (.func 108) #[] #[.pointer (some ⟨w.heap.size, 0, none⟩), .pointer (some ⟨w.heap.size + 1, 0, none⟩)]) ∧ w' = (w.alloc (.cells #[.int .i64 x] 3)).alloc (.cells #[.int .i64 y] 3) := by
  go_enter Tryz.func78, Tryz.ntmps78
  go_wp2
  go_ret
  exact ⟨rfl, rfl⟩
theorem onlyB_c (ga mf : Nat) (ca cm : Array Value) (w : World) : Calls Tryz.prog 77 #[.func (.func ga) #[] ca, .func (.func mf) #[] cm] w fun e w' =>
    e = .returned (.func (.func 107) #[] #[.pointer (some ⟨w.heap.size, 0, none⟩), .pointer (some ⟨w.heap.size + 1, 0, none⟩)]) ∧ w' = (w.alloc (.cells #[.func (.func ga) #[] ca] 109)).alloc (.cells #[.func (.func mf) #[] cm] 106) := by
  go_enter Tryz.func77, Tryz.ntmps77
  go_wp2
  go_ret
  exact ⟨rfl, rfl⟩
set_option maxRecDepth 100000 in
set_option maxHeartbeats 1000000 in
theorem boxes_seq (W H : Nat) (f Bw Bh : Nat) (rs : List Nat) (b e : Nat) (w : World) (hf : 1 ≤ f) (hW : W ≤ 8) (hH : H ≤ 8) (hpw : w.heap[Bw]? = some (.cells #[.int .i64 (W : Int)] 3 (0, 0))) (hph : w.heap[Bh]? = some (.cells #[.int .i64 (H : Int)] 3 (0, 0))) (hnw : Bw ∉ rs) (hnh : Bh ∉ rs) (hep : 3 ≠ e) :
    SeqN f 108 #[.pointer (some ⟨Bw, 0, none⟩), .pointer (some ⟨Bh, 0, none⟩)] encP rs b e (bxs W H) w := by
  intro l J W₁ hW₁ hJ hY h0
  have HY := Lib.hid hY; have HJ := Lib.hid hJ; have H0 := Lib.hid (show J (0 * H) W₁ from by rw [Nat.zero_mul]; exact h0)
  have C0 := Lib.hid (show KeepT rs b e w W₁ from KeepT.ext hW₁)
  have HBW := Lib.hid (fun (Y : World) (hY : KeepT rs b e w Y) => cell_of_blk (o := 0) (v := .int .i64 (W : Int)) (hY.cells hnw hpw hep) rfl)
  have HBH := Lib.hid (fun (Y : World) (hY : KeepT rs b e w Y) => cell_of_blk (o := 0) (v := .int .i64 (H : Int)) (hY.cells hnh hph hep) rfl)
  have c1 := HBW.out _ C0.out
  clear hY hJ h0 hpw hph hnw hnh hep hW₁
  refine callsIn_of_wp Tryz.func108 rfl trivial ?_ rfl
  simp only [Tryz.ntmps108, List.size_toArray, List.length_cons, List.length_nil, Nat.reduceAdd, Nat.reduceSub, Array.replicate_succ, Array.replicate_zero, List.push_toArray, List.append_toArray, List.nil_append, List.cons_append]
  gi_wp2
  gi_loopw [7] (fun s wr => ∃ i : Nat, i ≤ W ∧ s = .int .i64 (i : Int) ∧ Hid (J (i * H) wr) ∧ Hid (KeepT rs b e w wr)) (fun s wr => W - (intOf s).toNat)
  case atStart => exact ⟨0, by omega, by go_num, H0, C0⟩
  case round =>
    clear H0 C0 c1
    obtain ⟨i, hi, rfl, hJw, hK⟩ := hrel
    by_cases hlt : i < W
    · have c2 := HBH.out _ hK.out
      have hia : (i : Int) < (W : Int) := by omega
      have J0 := Lib.hid (show J (i * H + 0) wr from hJw.out)
      gi_wp2
      clear c2
      gi_loopw [11] (fun s wr => ∃ j : Nat, j ≤ H ∧ s = .int .i64 (j : Int) ∧ Hid (J (i * H + j) wr) ∧ Hid (KeepT rs b e w wr)) (fun s wr => H - (intOf s).toNat)
      case atStart => exact ⟨0, by omega, by go_num, J0, hK⟩
      case round =>
        clear J0 hJw hK
        obtain ⟨j, hj, rfl, hJw, hK⟩ := hrel
        by_cases hlj : j < H
        · have hja : (j : Int) < (H : Int) := by omega
          obtain ⟨fn, tmps, assign, body, hyy, hR⟩ := HY.out (i * H + j) (i + 1, j + 1) wr (bxs_at hlt hlj) hJw.out
          have HR := Lib.hid hR
          simp only [encP, Int.natCast_add, Int.natCast_one] at hyy
          clear hR
          gi_wp2_with fail
          refine RoundIn.mono HR.out ?_
          rintro e v1 ⟨rfl, hJn, hKn⟩
          have HJ1 := Lib.hid hJn
          have HK1 := Lib.hid (hK.out.trans hKn)
          clear hyy HR hJn hKn
          gi_wp2
          go_roundw
          case rel => exact ⟨j + 1, by omega, by go_num, HJ1, HK1⟩
          case measure => simp [intOf]; omega
        · obtain rfl : j = H := by omega
          have HJ1 := Lib.hid (show J ((i + 1) * j) wr from by rw [Nat.add_mul, Nat.one_mul]; exact hJw.out)
          gi_wp2
          go_roundw
          case rel => exact ⟨i + 1, by omega, by go_num, HJ1, hK⟩
          case measure => simp [intOf]; omega
    · obtain rfl : i = W := by omega
      gi_wp2
      go_end0
      exact ⟨⟨_, rfl⟩, by rw [bxs_len]; exact hJw.out⟩
set_option maxRecDepth 100000 in
set_option maxHeartbeats 1000000 in
/-- The iterator only over boxes: those that are meant. -/
theorem onlyB_seq (f Ba Bm ga mf b e : Nat) (he : e ≠ 106 ∧ e ≠ 109) (ca : Array Value) (cm : Array Value) (rs : List Nat) (p : BoxT → Bool) (L : List BoxT) (w : World) (hf : 2 ≤ f) (hba : Boxed w Ba 109 (.func (.func ga) #[] ca)) (hbm : Boxed w Bm 106 (.func (.func mf) #[] cm))
    (ega : ∀ args W, (callFunc ga args).run Tryz.prog W = .ok (.enter ga args) W) (egm : ∀ args W, (callFunc mf args).run Tryz.prog W = .ok (.enter mf args) W)
    (hrs : ∀ r ∈ rs, r < w.heap.size) (hna : Ba ∉ rs) (hnm : Bm ∉ rs)
    (hseq : SeqN (f - 1) ga ca encP rs b e L w)
    (hm : ∀ (X : World) (x : BoxT), x ∈ L → KeepT rs b e w X → Calls Tryz.prog mf (#[.agg #[.int .i64 (x.1 : Int), .int .i64 (x.2 : Int)]] ++ cm) X fun e w' => e = .returned (.bool (p x)) ∧ Ext X w') :
    SeqN f 107 #[.pointer (some ⟨Ba, 0, none⟩), .pointer (some ⟨Bm, 0, none⟩)] encP rs b e (L.filter p) w := by
  intro l J W hW hJ hY h0
  have HY := Lib.hid hY; have HJ := Lib.hid hJ; have H0 := Lib.hid h0; have HRS := Lib.hid hrs; have HM := Lib.hid hm; have HSEQ := Lib.hid hseq; have HBM := Lib.hid hbm; have HNM := Lib.hid hnm
  have c1 := Boxed.cell (block_ext hW hba)
  have l1 := hba.lt; have l2 := hbm.lt; have l3 := hW.size
  clear hY hJ h0 hba hbm hrs hm hseq hna hnm
  refine callsIn_of_wp_marks Tryz.func107 rfl trivial ?_ rfl
  simp only [Tryz.ntmps107, List.size_toArray, List.length_cons, List.length_nil, Nat.reduceAdd, Nat.reduceSub, Array.replicate_succ, Array.replicate_zero, List.push_toArray, List.append_toArray, List.nil_append, List.cons_append]
  have hE1 : Ext W (W.alloc (.cells #[.func (.yield l) #[] #[]] 106)) := (Ext.refl W).alloc _
  have hy1 : Boxed (W.alloc (.cells #[.func (.yield l) #[] #[]] 106)) W.heap.size 106 (.func (.yield l) #[] #[]) := Boxed.new W 106 _
  have hz1 : (W.alloc (.cells #[.func (.yield l) #[] #[]] 106)).heap.size = W.heap.size + 1 := by simp
  have c1 := cell_ext hE1 c1
  gi_wp2
  generalize hW1 : W.alloc (.cells #[.func (.yield l) #[] #[]] 106) = W1 at *
  clear hW1
  refine wp_seqNB (by omega) (gf := ga) (lb := ca) (encs := encP) (ps := #[6]) (rs := rs) (b := b) (e := e) rfl ega HSEQ.out (Below.trans hW (hE1.mono hW.size)) (fun _ => rfl) (fun r hr => by have := HRS.out r hr; omega)
    (fun k X => J (cntP p L k) X ∧ KeepT rs b e W1 X) ?hI ⟨abides HJ.out H0.out hE1, KeepT.refl _ _ _ _⟩ (fun k A B h hE => ⟨abides HJ.out h.1 hE, h.2.trans (KeepT.ext hE)⟩) 105 (fun x => #[.int .i64 (x.1 : Int), .int .i64 (x.2 : Int)]) ?af ?assign ?body ?done
  case hI => exact OwnFrom.and (fun s A B row hs hg hr => HJ.out _ A B row hs hg (fun r e => ⟨by have := (hr r e).1; omega, (hr r e).2⟩)) (ownFrom_keepT (Nat.le_refl _))
  case assign =>
    rintro l' x A B K hB hK
    dsimp only [encP]
    gi_wp2
    first | rw [← hB] | skip
    exact hK
  case body =>
    rintro l' k x Bx X hl' hx ⟨hJX, hKX⟩ hBx hbx
    obtain ⟨z0, z1⟩ := cells2 hbx
    have HBX := Lib.hid hbx
    have nb : W.heap.size ∉ rs := fun h => by have := HRS.out _ h; omega
    have cm := (hKX.boxed HNM.out (block_ext hE1 (block_ext hW HBM.out)) (fun h => he.1 h.symm)).cell
    have cy := (hKX.boxed nb hy1 (fun h => he.1 h.symm)).cell
    have hk0 : KeepT rs b e w X := (KeepT.ext (hW.trans (hE1.mono hW.size))).trans hKX
    have hM := HM.out X x (List.mem_of_getElem? hx) hk0
    have HX := Lib.hid hx
    have HKX := Lib.hid hKX; have HJX := Lib.hid hJX
    obtain ⟨pv, hpv⟩ : ∃ pv, pv = p x := ⟨_, rfl⟩
    rw [← hpv] at hM
    have HMM := Lib.hid hM; have HPV := Lib.hid hpv
    have HY1 := Lib.hid hy1
    have CY := Lib.hid (fun (Y : World) (h : Ext X Y) => cell_ext h cy)
    clear hKX hJX hk0 hM hpv hy1 c1 hx
    try dsimp only
    cases pv
    · gi_wp2_with fail
      refine ⟨trivial, fun h => (by cases h), ?_⟩
      refine (CallsIn.inRound l' (callsIn_wide.2 HMM.out)).mono ?_
      rintro e w' ⟨rfl, hb⟩
      have HB := Lib.hid hb; clear hb
      gi_wp2
      refine ⟨fun f' h => (by cases h), ?_⟩
      gi_wp2
      refine ⟨KeepT.ext HB.out, ?_, HKX.out.trans (KeepT.ext HB.out)⟩
      rw [cntP_no HX.out HPV.out.symm]
      exact HJ.out _ _ _ none HJX.out ⟨HB.out.os, HB.out.tape, HB.out.output, HB.out.size, fun i hi _ => HB.out.block i hi⟩ (fun r e => by cases e)
    · gi_wp2_with fail
      refine ⟨trivial, fun h => (by cases h), ?_⟩
      refine (CallsIn.inRound l' (callsIn_wide.2 HMM.out)).mono ?_
      rintro e w' ⟨rfl, hb⟩
      have cy' := CY.out w' hb
      obtain ⟨y0, y1⟩ := cells2 (block_ext hb HBX.out)
      have hJ' : J (cntP p L k) w' := HJ.out _ _ _ none HJX.out ⟨hb.os, hb.tape, hb.output, hb.size, fun i hi _ => hb.block i hi⟩ (fun r e => by cases e)
      obtain ⟨q1, q2⟩ := cntP_yes HX.out HPV.out.symm
      obtain ⟨fn, tmps, assign, body, hyy, hR⟩ := HY.out _ _ w' q1 hJ'
      have HR := Lib.hid (RoundIn.any (m' := f - 1 - 1 - 1) (l0 := l') hR)
      have HB := Lib.hid hb; have HQ2 := Lib.hid q2
      clear hb hR hJ' q1 q2
      dsimp only [encP] at hyy
      gi_wp2_with fail
      refine ⟨fun h => (by cases h), ?_⟩
      refine HR.out.mono ?_
      rintro e W5 ⟨rfl, hJ5, hK5⟩
      have HJ5 := Lib.hid hJ5; have HK5 := Lib.hid ((KeepT.ext HB.out).trans hK5)
      clear hJ5 hK5 HR
      gi_wp2
      refine ⟨HK5.out, ?_, HKX.out.trans HK5.out⟩
      rw [HQ2.out]
      exact HJ5.out
  case done =>
    rintro D X hD ⟨hJX, hKX⟩ hDW
    have hJ2 : J (L.filter p).length (X.putObj D (.deferred none)) := by
      have h := HJ.out.putObj (.deferred none) hJX (by omega) hDW rfl
      unfold cntP at h
      rwa [List.take_length] at h
    have HJ2 := Lib.hid hJ2; have HDW := Lib.hid hDW
    clear hJ2 hDW hJX hKX
    gi_wp2
    refine ⟨by simp, .inl ⟨_, _, rfl, run_takeDeferred HDW.out, ?_⟩⟩
    exact ⟨_, results_none rfl _ _ _, ⟨_, rfl⟩, HJ2.out⟩
end Go.Proofs.YtppjnpempgpkaaaGreat
namespace Go.Proofs.YtppjnpempgpkaaaGreat
open Go.RowKit Go.Shelf
set_option linter.unusedVariables false
set_option linter.unusedSimpArgs false
attribute [local go_sem] Oper.semAt_some

set_option maxRecDepth 100000 in
set_option maxHeartbeats 1000000 in
theorem enough_c (p : BoxT) (hp : p.1 ≤ 8 ∧ p.2 ≤ 8) (s : Int) (Bs : Nat) (w : World) (hb : w.heap[Bs]? = some (.cells #[.int .i64 s] 3 (0, 0))) : Calls Tryz.prog 74 #[.agg #[.int .i64 (p.1 : Int), .int .i64 (p.2 : Int)], .pointer (some ⟨Bs, 0, none⟩)] w fun e w' => e = .returned (.bool (decide (((2 * (p.1 + p.2) : Nat) : Int) ≤ s))) ∧ Ext w w' := by
  obtain ⟨a, b⟩ := p
  dsimp only at hp ⊢
  have HSC := Lib.hid (fun W => boxSticks_c (a, b) hp W)
  dsimp only at HSC
  obtain ⟨w1, hw1⟩ : ∃ w1, w1 = w.alloc (.cells #[.int .i64 (a : Int), .int .i64 (b : Int)] 105) := ⟨_, rfl⟩
  have HE1 := Lib.hid (show Ext w w1 from by rw [hw1]; exact (Ext.refl w).alloc _)
  have B0 := Lib.hid (show w1.heap[w.heap.size]? = some (.cells #[.int .i64 (a : Int), .int .i64 (b : Int)] 105 (0, 0)) from by rw [hw1]; exact heap_alloc_new w _)
  have B1 := Lib.hid (block_ext HE1.out hb)
  obtain ⟨n, hn⟩ : ∃ n : Nat, n = 2 * (a + b) := ⟨_, rfl⟩
  rw [← hn] at HSC ⊢
  clear hb hn hp
  go_enter Tryz.func74, Tryz.ntmps74
  go_upto_region 1 with fail
  rw [← hw1]
  clear hw1
  refine wp_region_order (fun Y : World => Y.heap[w.heap.size]? = some (.cells #[.int .i64 (a : Int), .int .i64 (b : Int)] 105 (0, 0)) ∧ Y.heap[Bs]? = some (.cells #[.int .i64 s] 3 (0, 0))) [0, 2, 1, 3, 4] (by kernel_rfl) (by kernel_rfl) (by exact ⟨B0.out, B1.out⟩) (fun hHeld => ?_)
  simp only [opsIn, List.filterMap_cons, List.filterMap_nil, List.getElem?_toArray, List.getElem?_cons_succ, List.getElem?_cons_zero]
  refine' text_chunk 2 (by kernel_rfl) hHeld ?ck1 ?cr1
  case ck1 =>
    intro W hSw
    have hSW := hSw
    try dsimp only at hSW
    clear hSw
    obtain ⟨s1, s2⟩ := hSW
    obtain ⟨z0, z1⟩ := cells2 s1
    have z2 := cell_of_blk s2 (o := 0) (v := .int .i64 s) rfl
    clear s1 s2
    simp only [List.take_succ_cons, List.take_zero, List.drop_succ_cons, List.drop_zero]
    repeat (go_big_quiet_step (fail))
    exact wpQuiet_nil rfl
  simp only [List.take_succ_cons, List.take_zero, List.drop_succ_cons, List.drop_zero]
  refine text_call (by rfl) (by rfl) (fun K hK => ?_)
  go_simp
  refine Calls.mono (HSC.out _) ?_
  intro e Y5 h1; obtain ⟨h1, hE⟩ := h1; subst h1
  have HE5 := Lib.hid hE
  clear hE
  all_goals (try (go_wp2_with fail))
  refine hK.out _ _ (by exact ⟨block_ext HE5.out hHeld.1, block_ext HE5.out hHeld.2⟩) (fun hHeld => ?_)
  clear hK K
  try simp only [Act.put, List.setIfInBounds_toArray, List.set_cons_zero, List.set_cons_succ]
  refine' text_chunk 2 (by kernel_rfl) hHeld ?ck2 ?cr2
  case ck2 =>
    intro W hSw
    have hSW := hSw
    try dsimp only at hSW
    clear hSw
    skip
    simp only [List.take_succ_cons, List.take_zero, List.drop_succ_cons, List.drop_zero]
    repeat (go_big_quiet_step (fail))
    exact wpQuiet_nil rfl
  simp only [List.take_succ_cons, List.take_zero, List.drop_succ_cons, List.drop_zero]
  refine text_done ?_
  go_wp2
  go_ret
  exact ⟨rfl, HE1.out.drew.trans HE5.out⟩
/-- The best of boxes: the first one of several. -/
def bst (L : List BoxT) : BoxT × Nat := L.foldl (fun st x => if st.2 < x.1 * x.2 then (x, x.1 * x.2) else st) ((0, 0), 0)
theorem bst_snoc {L : List BoxT} {k : Nat} {x : BoxT} (h : L[k]? = some x) : bst (L.take (k + 1)) = if (bst (L.take k)).2 < x.1 * x.2 then (x, x.1 * x.2) else bst (L.take k) := by
  unfold bst; rw [take_snoc h, List.foldl_append]; rfl
set_option maxRecDepth 100000 in
set_option maxHeartbeats 1000000 in
theorem bestB_c (w : World) (ga : Nat) (ca : Array Value) (L : List BoxT) (hL : ∀ p ∈ L, p.1 ≤ 8 ∧ p.2 ≤ 8)
    (ega : ∀ args W, (callFunc ga args).run Tryz.prog W = .ok (.enter ga args) W)
    (hseq : ∀ W, Ext w W → w.heap.size + 4 = W.heap.size → SeqN 11 ga ca encP [w.heap.size + 2, w.heap.size + 3] w.heap.size 0 L W) :
    Calls Tryz.prog 76 #[.func (.func ga) #[] ca, .func (.func 79) #[] #[]] w fun e w' => e = .returned (.agg #[.int .i64 ((bst L).1.1 : Int), .int .i64 ((bst L).1.2 : Int)]) ∧ Ext w w' := by
  obtain ⟨⟨ra, rb⟩, hfab⟩ : ∃ r, r = (bst L).1 := ⟨_, rfl⟩
  rw [← hfab]
  have HFAB := Lib.hid hfab
  clear hfab
  dsimp only
  refine (callsIn_wide (n := 12)).1 ?_
  obtain ⟨w1, hw1⟩ : ∃ w1, w1 = (((w.alloc (.cells #[.func (.func 79) #[] #[]] 112)).alloc (.cells #[.int .i64 0, .int .i64 0] 105)).alloc (.cells #[.int .i64 0, .int .i64 0] 105)).alloc (.cells #[.int .i64 0] 3) := ⟨_, rfl⟩
  have HE1 := Lib.hid (show Ext w w1 from by rw [hw1]; exact ((((Ext.refl w).alloc _).alloc _).alloc _).alloc _)
  have B0 := Lib.hid (show Boxed w1 w.heap.size 112 (.func (.func 79) #[] #[]) from by rw [hw1]; exact block_ext ((((Ext.refl _).alloc _).alloc _).alloc _) (heap_alloc_new w _))
  have B1 := Lib.hid (show w1.heap[w.heap.size + 1]? = some (.cells #[.int .i64 0, .int .i64 0] 105 (0, 0)) from by rw [hw1]; exact block_ext (((Ext.refl _).alloc _).alloc _) (heap_alloc_at _ _ (by simp)))
  have B2 := Lib.hid (show w1.heap[w.heap.size + 2]? = some (.cells #[.int .i64 0, .int .i64 0] 105 (0, 0)) from by rw [hw1]; exact block_ext ((Ext.refl _).alloc _) (heap_alloc_at _ _ (by simp)))
  have B3 := Lib.hid (show w1.heap[w.heap.size + 3]? = some (.cells #[.int .i64 0] 3 (0, 0)) from by rw [hw1]; exact heap_alloc_at _ _ (by simp))
  have HZ1 := Lib.hid (show w.heap.size + 4 = w1.heap.size from by rw [hw1]; simp)
  have HSEQ := Lib.hid (hseq w1 HE1.out HZ1.out)
  have HL := Lib.hid hL
  clear hseq hL
  refine callsIn_of_wp_marks Tryz.func76 rfl trivial ?_ rfl
  simp only [Tryz.ntmps76, List.size_toArray, List.length_cons, List.length_nil, Nat.reduceAdd, Nat.reduceSub, Array.replicate_succ, Array.replicate_zero, List.push_toArray, List.append_toArray, List.nil_append, List.cons_append]
  gi_wp2
  rw [← hw1]
  clear hw1
  obtain ⟨b3, hb3⟩ : ∃ b3, b3 = w.heap.size + 1 + 1 + 1 := ⟨_, rfl⟩
  rw [← hb3]
  obtain ⟨b2, hb2⟩ : ∃ b2, b2 = w.heap.size + 1 + 1 := ⟨_, rfl⟩
  rw [← hb2]
  rw [show w.heap.size + 2 = b2 from hb2.symm] at B2 HSEQ
  rw [show w.heap.size + 3 = b3 from hb3.symm] at B3 HSEQ
  have HB2 := Lib.hid (show b2 = w.heap.size + 2 from hb2); have HB3 := Lib.hid (show b3 = w.heap.size + 3 from hb3)
  clear hb2 hb3
  refine wp_seqNB (n := 12) (by omega) (gf := ga) (lb := ca) (encs := encP) (ps := #[10]) (rs := [b2, b3]) (b := w.heap.size) (e := 0) rfl ega HSEQ.out (Below.refl _ _) (fun _ => rfl) (by have := HZ1.out; have := HB2.out; have := HB3.out; simp; omega)
    (fun k X => X.heap[b2]? = some (.cells #[.int .i64 ((bst (L.take k)).1.1 : Int), .int .i64 ((bst (L.take k)).1.2 : Int)] 105 (0, 0)) ∧ X.heap[b3]? = some (.cells #[.int .i64 ((bst (L.take k)).2 : Int)] 3 (0, 0)) ∧ KeepT [b2, b3] w.heap.size 0 w1 X) ?hI ?h0 ?hIE 105 (fun x => #[.int .i64 (x.1 : Int), .int .i64 (x.2 : Int)]) ?af ?assign ?body ?done
  case hI =>
    rintro s A B row ⟨h1, h2, h3⟩ hg hr
    exact ⟨cells_turn h1 hg hr, cells_turn h2 hg hr, ownFrom_keepT (β := Unit) (Nat.le_refl _) () A B row h3 hg hr⟩
  case h0 => exact ⟨B2.out, B3.out, KeepT.refl _ _ _ _⟩
  case hIE =>
    rintro k A B ⟨h1, h2, h3⟩ hE
    exact ⟨block_ext hE h1, block_ext hE h2, h3.trans (KeepT.ext hE)⟩
  case assign =>
    rintro l2 x A B K hB hK
    dsimp only [encP]
    gi_wp2
    first | rw [← hB] | skip
    exact hK
  case body =>
    rintro l2 k x Bx X hl2 hx ⟨h1, h2, h3⟩ hBx hbx
    have HC := Lib.hid (boxCells_c x (HL.out x (List.mem_of_getElem? hx)) X)
    have HBS := Lib.hid (bst_snoc hx)
    have HZ := HZ1.out
    obtain ⟨n, hn⟩ : ∃ n, n = x.1 * x.2 := ⟨_, rfl⟩
    rw [← hn] at HC HBS
    obtain ⟨st, hst⟩ : ∃ st, st = bst (L.take k) := ⟨_, rfl⟩
    rw [← hst] at h1 h2 HBS
    obtain ⟨⟨fa, fb⟩, gr⟩ := st
    dsimp only at h1 h2 HBS
    have HH1 := Lib.hid h1; have HH2 := Lib.hid h2; have HK := Lib.hid h3; have HBX := Lib.hid hbx
    have cf := (h3.boxed (by have := HB2.out; have := HB3.out; simp; omega) B0.out (by decide)).cell
    obtain ⟨z0, z1⟩ := cells2 hbx
    clear h1 h2 h3 hn hst hx
    gi_wp2_with fail
    refine ⟨trivial, ?_⟩
    refine (CallsIn.inRound l2 (callsIn_wide.2 HC.out)).mono ?_
    rintro e X1 ⟨rfl, hE⟩
    have HE := Lib.hid hE
    have hh1 := block_ext hE HH1.out; have hh2 := block_ext hE HH2.out
    have c3 := cell_of_blk hh2 (o := 0) (v := .int .i64 (gr : Int)) rfl
    obtain ⟨y0, y1⟩ := cells2 (block_ext hE HBX.out)
    obtain ⟨f0, f1⟩ := cells2 hh1
    have r0 := frozen_of_blk hh1 0; have r1 := frozen_of_blk hh1 1; have r3 := frozen_of_blk hh2 0
    have HH1 := Lib.hid hh1; have HH2 := Lib.hid hh2
    have HKX := Lib.hid (show KeepT [b2, b3] w.heap.size 0 X X1 from KeepT.ext hE)
    clear hE hh1 hh2 cf z0 z1
    by_cases hgt : gr < n
    · have hi : (gr : Int) < (n : Int) := by omega
      rw [if_pos hgt] at HBS
      have hne : b3 ≠ b2 := by have := HB2.out; have := HB3.out; omega
      have hne2 : b2 ≠ b3 := fun e => hne e.symm
      have hs1 := set2b (set2a HH1.out (.int .i64 (x.1 : Int))) (.int .i64 (x.2 : Int))
      have HS1 := Lib.hid ((other_blk (grown_set _ b3 0 (.int .i64 (n : Int))) hne2 (lt_of_blk hs1)).trans hs1)
      have hg := (grown_set X1 b2 0 (.int .i64 (x.1 : Int)))
      have h32 := (other_blk (grown_set (X1.setCell ⟨b2, 0, none⟩ (.int .i64 (x.1 : Int))) b2 1 (.int .i64 (x.2 : Int))) hne (by have := lt_of_blk HH2.out; simpa [World.setCell] using this)).trans ((other_blk hg hne (lt_of_blk HH2.out)).trans HH2.out)
      have HS2 := Lib.hid (boxed_set h32 (.int .i64 (n : Int)))
      have HKS := Lib.hid (((HKX.out.trans (KeepT.set X1 (by simp) (.int .i64 (x.1 : Int)) (g := b2) (o := 0))).trans (KeepT.set _ (by simp) (.int .i64 (x.2 : Int)) (g := b2) (o := 1))).trans (KeepT.set _ (by simp) (.int .i64 (n : Int)) (g := b3) (o := 0)))
      clear hs1 hg h32
      gi_wp2
      refine ⟨HKS.out, ?_, ?_, HK.out.trans HKS.out⟩
      · rw [HBS.out]; exact HS1.out
      · rw [HBS.out]; exact HS2.out
    · have hi : ¬ (gr : Int) < (n : Int) := by omega
      rw [if_neg hgt] at HBS
      gi_wp2
      refine ⟨HKX.out, ?_, ?_, HK.out.trans HKX.out⟩
      · rw [HBS.out]; exact HH1.out
      · rw [HBS.out]; exact HH2.out
  case done =>
    rintro D X hD ⟨h1, h2, h3⟩ hDW
    rw [List.take_length] at h1
    have HEX := Lib.hid (show Ext w X from KeepT.below HE1.out h3 (by have := HB2.out; have := HB3.out; simp; omega) (Nat.le_refl _))
    have HB1 := Lib.hid (h3.cells (by have := HB2.out; have := HB3.out; simp; omega) B1.out (by decide))
    rw [← HFAB.out] at h1
    dsimp only at h1
    obtain ⟨f0, f1⟩ := cells2 h1
    obtain ⟨g0, g1⟩ := cells2 HB1.out
    have r0 := frozen_of_blk HB1.out 0; have r1 := frozen_of_blk HB1.out 1
    have hs1 := set2b (set2a HB1.out (.int .i64 (ra : Int))) (.int .i64 (rb : Int))
    have HS1 := Lib.hid hs1
    have HES := Lib.hid ((HEX.out.set (show w.heap.size ≤ w.heap.size + 1 by omega) 0 (.int .i64 (ra : Int))).set (show w.heap.size ≤ w.heap.size + 1 by omega) 1 (.int .i64 (rb : Int)))
    have HDW := Lib.hid hDW
    have hlD : w1.heap.size ≤ D := hD
    have HZ := HZ1.out
    have hdd : ((X.setCell ⟨w.heap.size + 1, 0, none⟩ (.int .i64 (ra : Int))).setCell ⟨w.heap.size + 1, 1, none⟩ (.int .i64 (rb : Int))).heap[D]? = some (.deferred (some [])) := by
      rw [other_blk (grown_set _ _ _ _) (by omega) (by have := lt_of_blk hDW; simpa [World.setCell] using this), other_blk (grown_set _ _ _ _) (by omega) (lt_of_blk hDW)]
      exact hDW
    have HDD := Lib.hid hdd
    clear h1 h2 h3 hDW hs1 hdd
    gi_wp2
    refine ⟨by simp, .inl ⟨_, _, rfl, run_takeDeferred HDD.out, ?_⟩⟩
    refine ⟨.agg #[.int .i64 (ra : Int), .int .i64 (rb : Int)], ?_, rfl, ?_⟩
    · exact results_cell_row (P := Tryz.prog) (fn := Tryz.f76) Tryz.results76 _ _ (w.heap.size + 1) _ _ _ _ rfl ((World.putObj_heap_other (by omega)).trans HS1.out) Tryz.underlying105 rfl (by kernel_rfl)
    · have h := HES.out
      exact ⟨h.os, h.tape, h.output, by have := h.size; simpa [World.putObj] using this, fun k hk => by rw [World.putObj_heap_other (by omega)]; exact h.block k hk⟩
end Go.Proofs.YtppjnpempgpkaaaGreat
namespace Go.Proofs.YtppjnpempgpkaaaGreat
open Go.RowKit Go.Shelf
set_option linter.unusedVariables false
set_option linter.unusedSimpArgs false
attribute [local go_sem] Oper.semAt_some

set_option maxRecDepth 100000 in
set_option maxHeartbeats 1000000 in
theorem most_range (s x y : Int) (w : World) (h : inn 1 8 [x, y] = false) : Calls Tryz.prog 43 #[.int .i64 s, .int .i64 x, .int .i64 y] w fun e w' => e = .returned (.tuple #[.int .i64 0, .int .i64 0, .int .i64 0, .int .i64 3]) ∧ Ext w w' := by
  have HI := Lib.hid h
  clear h
  have E0 := Lib.hid ((Ext.refl w).alloc (.cells #[.int .i64 s] 3))
  go_enter Tryz.func43, Tryz.ntmps43
  go_wp2_with (fail)
  refine (within2 1 8 x y _ _ (by simp)).mono ?_
  rintro e w1 ⟨rfl, rfl⟩
  rw [HI.out]
  go_wp2
  refine bodyPost_ret (by first | (simp [results, Tryz.results43, go_sem]; done) | (simp [results, Tryz.results43, go_sem]; rfl)) rfl ?_
  exact ⟨rfl, E0.out.alloc _⟩
set_option maxRecDepth 100000 in
set_option maxHeartbeats 1000000 in
theorem most_none (s x y : Int) (w : World) (h : inn 1 8 [x, y] = true) (hs : s < 4) : Calls Tryz.prog 43 #[.int .i64 s, .int .i64 x, .int .i64 y] w fun e w' => e = .returned (.tuple #[.int .i64 0, .int .i64 0, .int .i64 0, .int .i64 5]) ∧ Ext w w' := by
  have HI := Lib.hid h
  clear h
  have E0 := Lib.hid ((Ext.refl w).alloc (.cells #[.int .i64 s] 3))
  have E1 := E0.out.alloc (.cells #[.int .i64 x, .int .i64 y] 3)
  have c0 := cell_of_blk (block_ext ((Ext.refl _).alloc (.cells #[.int .i64 x, .int .i64 y] 3)) (heap_alloc_new w (.cells #[.int .i64 s] 3))) (o := 0) (v := .int .i64 s) rfl
  have HE1 := Lib.hid E1
  clear E1
  go_enter Tryz.func43, Tryz.ntmps43
  go_wp2_with (fail)
  refine (within2 1 8 x y _ _ (by simp)).mono ?_
  rintro e w1 ⟨rfl, rfl⟩
  rw [HI.out]
  go_wp2
  refine bodyPost_ret (by first | (simp [results, Tryz.results43, go_sem]; done) | (simp [results, Tryz.results43, go_sem]; rfl)) rfl ?_
  exact ⟨rfl, HE1.out⟩
/-- The box of the most cells. -/
def mostB (s : Int) (W H : Nat) : BoxT := (bst ((bxs W H).filter fun p => decide (((2 * (p.1 + p.2) : Nat) : Int) ≤ s))).1
theorem bst_in (L : List BoxT) : (bst L).1 = (0, 0) ∨ (bst L).1 ∈ L := by
  have : ∀ k, k ≤ L.length → (bst (L.take k)).1 = (0, 0) ∨ (bst (L.take k)).1 ∈ L := by
    intro k
    induction k with
    | zero => intro _; exact .inl rfl
    | succ k ih =>
      intro hk
      obtain ⟨x, hx⟩ := get_some (xs := L) (k := k) (by omega)
      rw [bst_snoc hx]
      split
      · exact .inr (List.mem_of_getElem? hx)
      · exact ih (by omega)
  have h := this L.length (Nat.le_refl _)
  rwa [List.take_length] at h
theorem mostB_le {s : Int} {W H : Nat} (hW : W ≤ 8) (hH : H ≤ 8) : (mostB s W H).1 ≤ 8 ∧ (mostB s W H).2 ≤ 8 := by
  unfold mostB
  rcases bst_in ((bxs W H).filter fun p => decide (((2 * (p.1 + p.2) : Nat) : Int) ≤ s)) with h | h
  · rw [h]; exact ⟨by decide, by decide⟩
  · have := bxs_mem (List.mem_filter.1 h).1
    omega
set_option maxRecDepth 100000 in
set_option maxHeartbeats 1000000 in
theorem most_ok (s : Int) (W H : Nat) (w : World) (hW : 1 ≤ W ∧ W ≤ 8) (hH : 1 ≤ H ∧ H ≤ 8) (hs : 4 ≤ s) : Calls Tryz.prog 43 #[.int .i64 s, .int .i64 (W : Int), .int .i64 (H : Int)] w fun e w' => e = .returned (.tuple #[.int .i64 (((mostB s W H).1 * (mostB s W H).2 : Nat) : Int), .int .i64 ((mostB s W H).1 : Int), .int .i64 ((mostB s W H).2 : Int), .int .i64 0]) ∧ Ext w w' := by
  have HI := Lib.hid (show inn 1 8 [(W : Int), (H : Int)] = true from by unfold inn; simp; omega)
  have hle := mostB_le (s := s) hW.2 hH.2
  have HBC := Lib.hid (fun X => boxes_c (W : Int) (H : Int) X)
  have HOC := Lib.hid (fun X Bp Bs => onlyB_c 108 74 #[.pointer (some ⟨Bp, 0, none⟩), .pointer (some ⟨Bp + 1, 0, none⟩)] #[.pointer (some ⟨Bs, 0, none⟩)] X)
  have HCO := Lib.hid (fun (X : World) (Ba Bp Bs : Nat) (h0 : X.heap[Bp]? = some (.cells #[.int .i64 (W : Int)] 3 (0, 0))) (h1 : X.heap[Bp + 1]? = some (.cells #[.int .i64 (H : Int)] 3 (0, 0))) (h2 : Boxed X Ba 109 (.func (.func 108) #[] #[.pointer (some ⟨Bp, 0, none⟩), .pointer (some ⟨Bp + 1, 0, none⟩)])) (h3 : Boxed X (Ba + 1) 106 (.func (.func 74) #[] #[.pointer (some ⟨Bs, 0, none⟩)])) (h4 : X.heap[Bs]? = some (.cells #[.int .i64 s] 3 (0, 0))) =>
    bestB_c X 107 #[.pointer (some ⟨Ba, 0, none⟩), .pointer (some ⟨Ba + 1, 0, none⟩)] ((bxs W H).filter fun p => decide (((2 * (p.1 + p.2) : Nat) : Int) ≤ s)) (fun p hp => by have := bxs_mem (List.mem_filter.1 hp).1; omega) (enters_of Tryz.func107 (by kernel_rfl) rfl) fun Y hY hz => by
      have q0 := lt_of_blk h0; have q1 := lt_of_blk h1; have q2 := h2.lt; have q3 := h3.lt; have q4 := lt_of_blk h4
      refine onlyB_seq 11 Ba (Ba + 1) 108 74 _ 0 (by decide) _ _ [X.heap.size + 2, X.heap.size + 3] (fun p => decide (((2 * (p.1 + p.2) : Nat) : Int) ≤ s)) (bxs W H) Y (by omega) (block_ext hY h2) (block_ext hY h3) (enters_of Tryz.func108 (by kernel_rfl) rfl) (enters_of Tryz.func74 (by kernel_rfl) rfl) (by simp; omega) (by simp; omega) (by simp; omega) ?_ ?_
      · exact boxes_seq W H 10 Bp (Bp + 1) [X.heap.size + 2, X.heap.size + 3] X.heap.size 0 Y (by omega) hW.2 hH.2 (block_ext hY h0) (block_ext hY h1) (by simp; omega) (by simp; omega) (by decide)
      · intro Z x hx hk
        have hx2 := bxs_mem hx
        exact enough_c x (by omega) s Bs Z (hk.cells (by simp; omega) (block_ext hY h4) (by decide)))
  obtain ⟨⟨a, b⟩, hab⟩ : ∃ r, r = mostB s W H := ⟨_, rfl⟩
  have HMB := Lib.hid hab
  rw [show (bst ((bxs W H).filter fun p => decide (((2 * (p.1 + p.2) : Nat) : Int) ≤ s))).1 = (a, b) from hab.symm] at HCO
  rw [← hab] at hle ⊢
  dsimp only at hle ⊢ HCO
  have HCC := Lib.hid (fun X => boxCells_c (a, b) hle X)
  dsimp only at HCC
  obtain ⟨c, hc⟩ : ∃ c, c = a * b := ⟨_, rfl⟩
  rw [← hc] at HCC ⊢
  clear hab hle hc hW hH
  have E0 := Lib.hid (((Ext.refl w).alloc (.cells #[.int .i64 s] 3)).alloc (.cells #[.int .i64 (W : Int), .int .i64 (H : Int)] 3))
  have B0 := Lib.hid (block_ext ((Ext.refl _).alloc (.cells #[.int .i64 (W : Int), .int .i64 (H : Int)] 3)) (heap_alloc_new w (.cells #[.int .i64 s] 3)))
  have c0 := cell_of_blk B0.out (o := 0) (v := .int .i64 s) rfl
  have hns : ¬ s < 4 := by omega
  go_enter Tryz.func43, Tryz.ntmps43
  go_wp2_with (fail)
  refine (within2 1 8 (W : Int) (H : Int) _ _ (by simp)).mono ?_
  intro e w1 h1
  obtain ⟨h1, h2⟩ := h1
  subst h1
  rw [HI.out]
  rw [h2] at c0 B0 E0
  clear h2
  go_wp2_with (first
    | (go_at_call 78; refine Calls.mono (HBC.out _) ?_; intro e w2 h1; obtain ⟨h1, hw2⟩ := h1; subst h1; have HE2 := Lib.hid (show Ext w1 w2 from by rw [hw2]; exact ((Ext.refl _).alloc _).alloc _); have P0 := Lib.hid (show w2.heap[w1.heap.size]? = some (.cells #[.int .i64 (W : Int)] 3 (0, 0)) from by rw [hw2]; exact block_ext ((Ext.refl _).alloc _) (heap_alloc_new w1 _)); have P1 := Lib.hid (show w2.heap[w1.heap.size + 1]? = some (.cells #[.int .i64 (H : Int)] 3 (0, 0)) from by rw [hw2]; exact heap_alloc_at _ _ (by simp)); clear hw2 c0)
    | (go_at_call 77; refine Calls.mono (HOC.out _ _ _) ?_; intro e w3 h1; obtain ⟨h1, hw3⟩ := h1; subst h1; have HE3 := Lib.hid (show Ext w2 w3 from by rw [hw3]; exact ((Ext.refl _).alloc _).alloc _); have Q0 := Lib.hid (show Boxed w3 w2.heap.size 109 (.func (.func 108) #[] #[.pointer (some ⟨w1.heap.size, 0, none⟩), .pointer (some ⟨w1.heap.size + 1, 0, none⟩)]) from by rw [hw3]; exact block_ext ((Ext.refl _).alloc _) (heap_alloc_new w2 _)); have Q1 := Lib.hid (show Boxed w3 (w2.heap.size + 1) 106 (.func (.func 74) #[] #[.pointer (some ⟨w.heap.size, 0, none⟩)]) from by rw [hw3]; exact heap_alloc_at _ _ (by simp)); clear hw3)
    | (go_at_call 76; refine Calls.mono (HCO.out _ _ _ _ (block_ext HE3.out P0.out) (block_ext HE3.out P1.out) Q0.out Q1.out (block_ext HE3.out (block_ext HE2.out B0.out))) ?_; intro e V9 h1; obtain ⟨h1, hE⟩ := h1; subst h1; have HE9 := Lib.hid (((E0.out.trans HE2.out).trans HE3.out).trans hE); clear hE)
    | fail)
  obtain ⟨X9, hX9⟩ : ∃ X9, X9 = V9.alloc (.cells #[.int .i64 (a : Int), .int .i64 (b : Int)] 105) := ⟨_, rfl⟩
  have Z9 := Lib.hid (show X9.heap[V9.heap.size]? = some (.cells #[.int .i64 (a : Int), .int .i64 (b : Int)] 105 (0, 0)) from by rw [hX9]; exact heap_alloc_new V9 _)
  have HX9 := Lib.hid (show Ext w X9 from by rw [hX9]; exact HE9.out.alloc _)
  rw [← hX9]
  clear hX9
  refine wp_region_order ((fun Y : World => Y.heap[V9.heap.size]? = some (.cells #[.int .i64 (a : Int), .int .i64 (b : Int)] 105 (0, 0)))) [0, 2, 3, 4, 5, 1, 6, 7, 8, 9] (by kernel_rfl) (by kernel_rfl) (by exact Z9.out) (fun hHeld => ?_)
  simp only [opsIn, List.filterMap_cons, List.filterMap_nil, List.getElem?_toArray, List.getElem?_cons_succ, List.getElem?_cons_zero]
  refine' text_chunk 5 (by kernel_rfl) hHeld ?ck1 ?cr1
  case ck1 =>
    intro W hSw
    have hSW := hSw
    try dsimp only at hSW
    clear hSw
    obtain ⟨z0, z1⟩ := cells2 hSW
    simp only [List.take_succ_cons, List.take_zero, List.drop_succ_cons, List.drop_zero]
    repeat (go_big_quiet_step (fail))
    exact wpQuiet_nil rfl
  simp only [List.take_succ_cons, List.take_zero, List.drop_succ_cons, List.drop_zero]
  refine text_call (by rfl) (by rfl) (fun K hK => ?_)
  go_simp
  refine Calls.mono (HCC.out _) ?_
  intro e Y5 h1; obtain ⟨h1, hE⟩ := h1; subst h1
  have HE5 := Lib.hid hE
  clear hE
  all_goals (try (go_wp2_with fail))
  refine hK.out _ _ (by exact block_ext HE5.out hHeld) (fun hHeld => ?_)
  clear hK K
  try simp only [Act.put, List.setIfInBounds_toArray, List.set_cons_zero, List.set_cons_succ]
  refine' text_chunk 4 (by kernel_rfl) hHeld ?ck2 ?cr2
  case ck2 =>
    intro W hSw
    have hSW := hSw
    try dsimp only at hSW
    clear hSw
    skip
    simp only [List.take_succ_cons, List.take_zero, List.drop_succ_cons, List.drop_zero]
    repeat (go_big_quiet_step (fail))
    exact wpQuiet_nil rfl
  simp only [List.take_succ_cons, List.take_zero, List.drop_succ_cons, List.drop_zero]
  refine text_done ?_
  go_wp2
  refine bodyPost_ret (by first | (simp [results, Tryz.results43, go_sem]; done) | (simp [results, Tryz.results43, go_sem]; rfl)) rfl ?_
  exact ⟨rfl, HX9.out.drew.trans HE5.out⟩
end Go.Proofs.YtppjnpempgpkaaaGreat
