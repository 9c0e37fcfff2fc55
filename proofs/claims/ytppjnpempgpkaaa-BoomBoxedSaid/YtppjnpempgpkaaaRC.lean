/- The reference: dir, Corners, by their contracts. The reference: CheckChain, by its contract. -/
import Derived.Test.YtppjnpempgpkaaaRA
import Derived.Test.YtppjnpempgpkaaaH7
import Derived.Test.YtppjnpempgpkaaaH6
import Derived.Test.YtppjnpempgpkaaaN3
import Derived.Test.YtppjnpempgpkaaaK1
import Derived.ChangeKeysEq
import Derived.Test.YtppjnpempgpkaaaK8
namespace Go.Proofs.Ytppjnpempgpkaaa
open Go.RowKit Go.Shelf
set_option linter.unusedVariables false
set_option linter.unusedSimpArgs false
attribute [local go_sem] Oper.semAt_some
/-- A list of corners of the call's own. -/
def OwnD (B : Nat) (w : World) (v : Value) (l : List Pt) : Prop := w.ownsRow B 61 2 v l.length (flC l)
theorem OwnD.ext {B : Nat} {w w' : World} {v : Value} {l : List Pt} (h : OwnD B w v l) (hb : Ext w w') : OwnD B w' v l := ownsRow_ext h hb
theorem OwnD.shape {B : Nat} {w : World} {v : Value} {l : List Pt} (h : OwnD B w v l) : ∃ a cap, v = .slice a l.length cap := own_shape h
theorem OwnD.weak {B C : Nat} {w : World} {v : Value} {l : List Pt} (h : OwnD B w v l) (hb : C ≤ B) : OwnD C w v l := by
  obtain ⟨q1, q2⟩ := h
  refine ⟨q1, q2.imp id ?_⟩
  rintro ⟨g, cap, cur, rfl, hgb, r⟩
  exact ⟨g, cap, cur, rfl, Nat.le_trans hb hgb, r⟩
theorem OwnD.at {B : Nat} {w : World} {v : Value} {l : List Pt} (h : OwnD B w v l) {i : Nat} {p : Pt} (hp : l[i]? = some p) : ∃ g cap, v = .slice (some ⟨g, 0, none⟩) l.length cap ∧ l.length ≤ cap ∧ cap ≤ 9223372036854775807 ∧ w.cell? ⟨g, i * 2, none⟩ = some (.int .i64 p.1) ∧ w.cell? ⟨g, i * 2 + 1, none⟩ = some (.int .i64 p.2) := by
  have hi := (List.getElem?_eq_some_iff.1 hp).1
  obtain ⟨_, ⟨rfl, h0⟩ | ⟨g, cap, cur, rfl, h1, h2, h3, h4, h5, h6⟩⟩ := h
  · omega
  · obtain ⟨e1, e2⟩ := flC_get l i p hp
    rw [← h6, List.getElem?_take_of_lt (by omega), Array.getElem?_toList] at e1 e2
    exact ⟨g, cap, rfl, h3, by unfold maxLen at h4; omega, cell_of_blk h2 e1, cell_of_blk h2 e2⟩
theorem OwnD.new (w : World) (B n : Nat) (p : Pt) (hn : n = w.heap.size) (hB : B ≤ n) : OwnD B (w.alloc (.cells #[.int .i64 p.1, .int .i64 p.2] 61)) (.slice (some ⟨n, 0, none⟩) 1 1) [p] := by
  subst hn
  exact ⟨flC_length [p], .inr ⟨w.heap.size, 1, #[.int .i64 p.1, .int .i64 p.2], rfl, hB, heap_alloc_new w _, Nat.le_refl _, by unfold maxLen; decide, by simp, rfl⟩⟩
theorem OwnD.grown {B b : Nat} {w w' : World} {v : Value} {l : List Pt} (h : OwnD B w v l) (hg : w.grownBy w' (some b)) (hb : b < B) : OwnD B w' v l := by
  obtain ⟨h1, h2⟩ := h
  refine ⟨h1, h2.imp id ?_⟩
  rintro ⟨g, cap, cur, rfl, hgb, hh, r⟩
  refine ⟨g, cap, cur, rfl, hgb, ?_, r⟩
  rw [hg.block g (lt_of_blk hh) (by intro h; cases h; omega)]
  exact hh
theorem infoPair : (Try.prog.info? 61).map (fun i => (i.zero, i.size, i.bytes)) = some (some (.agg #[.int .i64 0, .int .i64 0]), 2, 16) := by kernel_rfl
theorem appendD_run {X : World} {B : Nat} {v : Value} {l : List Pt} (h : OwnD B X v l) (hB : B ≤ X.heap.size) (hl : l.length ≤ 1000) (p : Pt) (b : Nat) (h0 : X.cell? ⟨b, 0, none⟩ = some (.int .i64 p.1)) (h1 : X.cell? ⟨b, 1, none⟩ = some (.int .i64 p.2)) (ty : TypeId) :
    ∃ v' X', (Builtin.append_ #[59, 59] ty #[v, .slice (some ⟨b, 0, none⟩) 1 1]).run Try.prog X = .ok v' X' ∧ OwnD B X' v' (l ++ [p]) ∧ X.grownBy X' v.ownBlock := by
  obtain ⟨i0, hi0, hz0, hz1, hz2⟩ := info_parts infoPair
  obtain ⟨v', X', hrun, r1, r2, r3⟩ := run_append_own (P := Try.prog) X B 59 ty 61 i0 _ 2 16 Try.underlying59 hi0 hz0 hz1 hz2 rfl (by decide) v _ _ h ⟨b, 0, none⟩ 1 1 (flC [p]) rfl (fun j u hj => by
    match j, hj with
    | 0, hj => simp [flC] at hj; subst hj; rw [addr_add]; exact h0
    | 1, hj => simp [flC] at hj; subst hj; rw [addr_add]; exact h1
    | j + 2, hj => simp [flC] at hj) (fun u hu => by simp [flC] at hu; rcases hu with rfl | rfl <;> rfl) (by unfold maxLen; omega) (by omega) hB
  refine ⟨v', X', hrun, ?_, r2⟩
  unfold OwnD
  rw [flC_append, List.length_append]
  exact r1

def dirV (c : Int) : Int := if c = 69 then 0 else if c = 78 then 1 else if c = 87 then 2 else if c = 83 then 3 else -1
theorem dir_c (c : Int) (w : World) : Calls Try.prog 72 #[.int .u8 c] w fun e w' => e = .returned (.int .i64 (dirV c)) ∧ w = w' := by
  obtain ⟨r, hr⟩ : ∃ r, r = dirV c := ⟨_, rfl⟩
  rw [← hr]
  have HR := Lib.hid hr
  clear hr
  by_cases h0 : c = 69
  · have HV := Lib.hid (show r = 0 from by rw [HR.out]; unfold dirV; rw [if_pos h0])
    subst h0
    go_enter Try.func72, Try.ntmps72
    go_wp2
    go_ret
    exact ⟨ret_int HV.out.symm, rfl⟩
  by_cases h1 : c = 78
  · have HV := Lib.hid (show r = 1 from by rw [HR.out]; unfold dirV; rw [if_neg h0, if_pos h1])
    subst h1
    go_enter Try.func72, Try.ntmps72
    go_wp2
    go_ret
    exact ⟨ret_int HV.out.symm, rfl⟩
  by_cases h2 : c = 87
  · have HV := Lib.hid (show r = 2 from by rw [HR.out]; unfold dirV; rw [if_neg h0, if_neg h1, if_pos h2])
    subst h2
    go_enter Try.func72, Try.ntmps72
    go_wp2
    go_ret
    exact ⟨ret_int HV.out.symm, rfl⟩
  by_cases h3 : c = 83
  · have HV := Lib.hid (show r = 3 from by rw [HR.out]; unfold dirV; rw [if_neg h0, if_neg h1, if_neg h2, if_pos h3])
    subst h3
    go_enter Try.func72, Try.ntmps72
    go_wp2
    go_ret
    exact ⟨ret_int HV.out.symm, rfl⟩
  · have HV := Lib.hid (show r = -1 from by rw [HR.out]; unfold dirV; rw [if_neg h0, if_neg h1, if_neg h2, if_neg h3])
    go_enter Try.func72, Try.ntmps72
    go_wp2
    go_ret
    exact ⟨ret_int HV.out.symm, rfl⟩
theorem dirV_is (b : UInt8) : dirV (b.toNat : Int) = if dirU b < 4 then (dirU b : Int) else -1 := by
  rw [dirU_num]
  unfold dirV
  by_cases h0 : (b.toNat : Int) = 69
  · simp [h0]
  by_cases h1 : (b.toNat : Int) = 78
  · simp [h1]
  by_cases h2 : (b.toNat : Int) = 87
  · simp [h2]
  by_cases h3 : (b.toNat : Int) = 83
  · simp [h3]
  · simp [h0, h1, h2, h3]
set_option maxRecDepth 100000 in
set_option maxHeartbeats 4000000 in
theorem rcorners_c (X Y : Int) (s : ByteArray) (w : World) (hs : s.size ≤ 200) :
    Calls Try.prog 38 #[.agg #[.int .i64 X, .int .i64 Y, .string s]] w fun e w' => ∃ v, e = .returned v ∧ OwnD w.heap.size w' v (ptsW (X, Y) (dirs s)) ∧ Ext w w' := by
  obtain ⟨w1, hw1⟩ : ∃ w1, w1 = w.alloc (.cells #[.int .i64 X, .int .i64 Y, .string s] 40) := ⟨_, rfl⟩
  have HE1 := Lib.hid (show Ext w w1 from by rw [hw1]; exact (Ext.refl w).alloc _)
  have B0 := Lib.hid (show w1.heap[w.heap.size]? = some (.cells #[.int .i64 X, .int .i64 Y, .string s] 40 (0, 0)) from by rw [hw1]; exact heap_alloc_new w _)
  have HZ1 := Lib.hid (show w1.heap.size = w.heap.size + 1 from by rw [hw1]; simp)
  obtain ⟨c0, c1, c2⟩ : w1.cell? ⟨w.heap.size, 0, none⟩ = some (.int .i64 X) ∧ w1.cell? ⟨w.heap.size, 1, none⟩ = some (.int .i64 Y) ∧ w1.cell? ⟨w.heap.size, 2, none⟩ = some (.string s) := ⟨cell_of_blk B0.out rfl, cell_of_blk B0.out rfl, cell_of_blk B0.out rfl⟩
  have hn63 : s.size ≤ 9223372036854775807 := by omega
  go_enter Try.func38, Try.ntmps38
  go_upto_region 1 with fail
  rw [← hw1]
  clear hw1
  go_quiet (fail)
  obtain ⟨w2, hw2⟩ : ∃ w2, w2 = (w1.drewN nq).alloc (.cells #[.int .i64 X, .int .i64 Y] 61) := ⟨_, rfl⟩
  have HE2 := Lib.hid (show Ext w w2 from by rw [hw2]; exact (HE1.out.drewN _).alloc _)
  have B2 := Lib.hid (show w2.heap[w.heap.size]? = some (.cells #[.int .i64 X, .int .i64 Y, .string s] 40 (0, 0)) from by rw [hw2]; exact block_ext ((Ext.refl _).alloc _) (show (w1.drewN nq).heap[w.heap.size]? = _ from B0.out))
  have O2 := Lib.hid (show OwnD (w.heap.size + 1) w2 (.slice (some ⟨w1.heap.size, 0, none⟩) 1 1) [(X, Y)] from by rw [hw2]; exact OwnD.new (w1.drewN nq) _ _ (X, Y) rfl (by have := HZ1.out; omega))
  clear c0 c1 c2
  go_upto_region 3 with fail
  rw [← hw2]
  clear hw2 HE1 B0
  go_wp2
  go_loopw [3, 4, 5, 6] (fun vx vy vl i wr => ∃ k : Nat, k ≤ s.size ∧ i = .int .i64 (k : Int) ∧ vx = .int .i64 (finW (X, Y) ((dirs s).take k)).1 ∧ vy = .int .i64 (finW (X, Y) ((dirs s).take k)).2 ∧ Hid (OwnD (w.heap.size + 1) wr vl (ptsW (X, Y) ((dirs s).take k))) ∧ Hid (wr.heap[w.heap.size]? = some (.cells #[.int .i64 X, .int .i64 Y, .string s] 40 (0, 0))) ∧ Hid (Ext w wr)) (fun vx vy vl i wr => s.size - (intOf i).toNat)
  case atStart => exact ⟨0, Nat.zero_le _, rfl, rfl, rfl, O2, B2, HE2⟩
  case round =>
    clear O2 B2 HE2
    obtain ⟨k, hk, rfl, rfl, rfl, hO, hb, hE⟩ := hrel
    have c2 := cell_of_blk hb.out (o := 2) (v := .string s) rfl
    by_cases hlt : k < s.size
    · have hkb : (k : Int) < (s.size : Int) := by omega
      have hka : (0 : Int) ≤ (k : Int) := by omega
      have hkt : (k : Int).toNat = k := by omega
      have HDK0 := Lib.hid (show (dirs s)[k]? = some (dirU (s[k]'hlt)) from by
        unfold dirs
        rw [List.getElem?_map]
        have : s.data.toList[k]? = some (s[k]'hlt) := by
          rw [Array.getElem?_toList, Array.getElem?_eq_getElem (by simpa using hlt)]; rfl
        rw [this]; rfl)
      have HDX := Lib.hid (show ∀ X : World, Calls Try.prog 72 #[.int .u8 ((s[k]'hlt).toNat : Int)] X fun e w' => e = .returned (.int .i64 (if dirU (s[k]'hlt) < 4 then (dirU (s[k]'hlt) : Int) else -1)) ∧ X = w' from fun X => by have := dir_c ((s[k]'hlt).toNat : Int) X; rw [dirV_is] at this; exact this)
      obtain ⟨⟨x, y⟩, hxy⟩ : ∃ p, p = finW (X, Y) ((dirs s).take k) := ⟨_, rfl⟩
      have HXY := Lib.hid hxy
      rw [← hxy]
      dsimp only
      clear hxy
      obtain ⟨cv, hcv⟩ : ∃ cv : Int, cv = ((s[k]'hlt).toNat : Int) := ⟨_, rfl⟩
      have hix : ∀ W : World, (Instr.index 9 (.string s) (.int .i64 (k : Int))).run Try.prog W = .ok (.int .u8 cv) W := fun W => by
        rw [run_index_string (h := Try.underlying9), dif_pos ⟨hka, hkb⟩, hcv]
        rfl
      obtain ⟨D, hD⟩ : ∃ D, D = dirU (s[k]'hlt) := ⟨_, rfl⟩
      have hD5 : D < 5 := by rw [hD]; unfold dirU; (repeat' split) <;> omega
      rw [← hcv, ← hD] at HDX
      rw [← hD] at HDK0
      clear hcv hD hkt
      have hD' : D = 0 ∨ D = 1 ∨ D = 2 ∨ D = 3 ∨ D = 4 := by omega
      clear hD5
      rcases hD' with rfl | rfl | rfl | rfl | rfl
      · have HDK := HDK0
        have HDC := Lib.hid (show ∀ X : World, Calls Try.prog 72 #[.int .u8 cv] X fun e w' => e = .returned (.int .i64 (0)) ∧ X = w' from HDX.out)
        have hx' : mvW (x, y) 0 = (wrap64 (x + 1), y) := rfl
        obtain ⟨W3, hW3⟩ : ∃ W3, W3 = wr.alloc (.cells #[.int .i64 (wrap64 (x + 1)), .int .i64 (y)] 61) := ⟨_, rfl⟩
        have hE3 : Ext wr W3 := by rw [hW3]; exact (Ext.refl _).alloc _
        have hz3 : W3.heap[wr.heap.size]? = some (.cells #[.int .i64 (wrap64 (x + 1)), .int .i64 (y)] 61 (0, 0)) := by rw [hW3]; exact heap_alloc_new wr _
        obtain ⟨d0, d1⟩ := cells2 hz3
        obtain ⟨v4, X4, hrun, ho4, hg4⟩ := appendD_run (hO.out.ext hE3) (by have := lt_of_blk hb.out; have := hE3.size; omega) (by rw [ptsW_len, List.length_take]; omega) (wrap64 (x + 1), y) wr.heap.size d0 d1 59
        have hob := own_from (hO.out.ext hE3)
        have HO4 := Lib.hid (show OwnD (w.heap.size + 1) X4 v4 (ptsW (X, Y) ((dirs s).take (k + 1))) from by rw [take_snoc HDK.out, ptsW_snoc, ← HXY.out, hx']; exact ho4)
        have HF4 := Lib.hid (show finW (X, Y) ((dirs s).take (k + 1)) = (wrap64 (x + 1), y) from by rw [take_snoc HDK.out, finW_snoc, ← HXY.out]; exact hx')
        have HB4 := Lib.hid ((hg4.block w.heap.size (lt_of_blk (block_ext hE3 hb.out)) (fun e => by have := hob _ e.symm; omega)).trans (block_ext hE3 hb.out))
        have HE4 := Lib.hid (show Ext w X4 from grown_any (hE.out.trans hE3) hg4 (fun g e => by have := hob g e; omega))
        have HRUN := Lib.hid hrun
        rw [hW3] at hrun
        clear hx' hE3 hz3 d0 d1 ho4 hg4 hob hW3
        go_wp2_with (first | (go_at_call 72; refine Calls.mono (HDC.out _) ?_; intro e Yd h1; obtain ⟨h1, hY⟩ := h1; subst h1; subst hY) | (refine wpList_append_run rfl _ _ 59 rfl rfl rfl hrun ?_) | fail)
        go_roundw
        case rel => exact ⟨k + 1, by omega, by go_num, by rw [HF4.out], by rw [HF4.out], HO4, HB4, HE4⟩
        case measure => simp [intOf]; omega
      · have HDK := HDK0
        have HDC := Lib.hid (show ∀ X : World, Calls Try.prog 72 #[.int .u8 cv] X fun e w' => e = .returned (.int .i64 (1)) ∧ X = w' from HDX.out)
        have hx' : mvW (x, y) 1 = (x, wrap64 (y + 1)) := rfl
        obtain ⟨W3, hW3⟩ : ∃ W3, W3 = wr.alloc (.cells #[.int .i64 (x), .int .i64 (wrap64 (y + 1))] 61) := ⟨_, rfl⟩
        have hE3 : Ext wr W3 := by rw [hW3]; exact (Ext.refl _).alloc _
        have hz3 : W3.heap[wr.heap.size]? = some (.cells #[.int .i64 (x), .int .i64 (wrap64 (y + 1))] 61 (0, 0)) := by rw [hW3]; exact heap_alloc_new wr _
        obtain ⟨d0, d1⟩ := cells2 hz3
        obtain ⟨v4, X4, hrun, ho4, hg4⟩ := appendD_run (hO.out.ext hE3) (by have := lt_of_blk hb.out; have := hE3.size; omega) (by rw [ptsW_len, List.length_take]; omega) (x, wrap64 (y + 1)) wr.heap.size d0 d1 59
        have hob := own_from (hO.out.ext hE3)
        have HO4 := Lib.hid (show OwnD (w.heap.size + 1) X4 v4 (ptsW (X, Y) ((dirs s).take (k + 1))) from by rw [take_snoc HDK.out, ptsW_snoc, ← HXY.out, hx']; exact ho4)
        have HF4 := Lib.hid (show finW (X, Y) ((dirs s).take (k + 1)) = (x, wrap64 (y + 1)) from by rw [take_snoc HDK.out, finW_snoc, ← HXY.out]; exact hx')
        have HB4 := Lib.hid ((hg4.block w.heap.size (lt_of_blk (block_ext hE3 hb.out)) (fun e => by have := hob _ e.symm; omega)).trans (block_ext hE3 hb.out))
        have HE4 := Lib.hid (show Ext w X4 from grown_any (hE.out.trans hE3) hg4 (fun g e => by have := hob g e; omega))
        have HRUN := Lib.hid hrun
        rw [hW3] at hrun
        clear hx' hE3 hz3 d0 d1 ho4 hg4 hob hW3
        go_wp2_with (first | (go_at_call 72; refine Calls.mono (HDC.out _) ?_; intro e Yd h1; obtain ⟨h1, hY⟩ := h1; subst h1; subst hY) | (refine wpList_append_run rfl _ _ 59 rfl rfl rfl hrun ?_) | fail)
        go_roundw
        case rel => exact ⟨k + 1, by omega, by go_num, by rw [HF4.out], by rw [HF4.out], HO4, HB4, HE4⟩
        case measure => simp [intOf]; omega
      · have HDK := HDK0
        have HDC := Lib.hid (show ∀ X : World, Calls Try.prog 72 #[.int .u8 cv] X fun e w' => e = .returned (.int .i64 (2)) ∧ X = w' from HDX.out)
        have hx' : mvW (x, y) 2 = (wrap64 (x - 1), y) := rfl
        obtain ⟨W3, hW3⟩ : ∃ W3, W3 = wr.alloc (.cells #[.int .i64 (wrap64 (x - 1)), .int .i64 (y)] 61) := ⟨_, rfl⟩
        have hE3 : Ext wr W3 := by rw [hW3]; exact (Ext.refl _).alloc _
        have hz3 : W3.heap[wr.heap.size]? = some (.cells #[.int .i64 (wrap64 (x - 1)), .int .i64 (y)] 61 (0, 0)) := by rw [hW3]; exact heap_alloc_new wr _
        obtain ⟨d0, d1⟩ := cells2 hz3
        obtain ⟨v4, X4, hrun, ho4, hg4⟩ := appendD_run (hO.out.ext hE3) (by have := lt_of_blk hb.out; have := hE3.size; omega) (by rw [ptsW_len, List.length_take]; omega) (wrap64 (x - 1), y) wr.heap.size d0 d1 59
        have hob := own_from (hO.out.ext hE3)
        have HO4 := Lib.hid (show OwnD (w.heap.size + 1) X4 v4 (ptsW (X, Y) ((dirs s).take (k + 1))) from by rw [take_snoc HDK.out, ptsW_snoc, ← HXY.out, hx']; exact ho4)
        have HF4 := Lib.hid (show finW (X, Y) ((dirs s).take (k + 1)) = (wrap64 (x - 1), y) from by rw [take_snoc HDK.out, finW_snoc, ← HXY.out]; exact hx')
        have HB4 := Lib.hid ((hg4.block w.heap.size (lt_of_blk (block_ext hE3 hb.out)) (fun e => by have := hob _ e.symm; omega)).trans (block_ext hE3 hb.out))
        have HE4 := Lib.hid (show Ext w X4 from grown_any (hE.out.trans hE3) hg4 (fun g e => by have := hob g e; omega))
        have HRUN := Lib.hid hrun
        rw [hW3] at hrun
        clear hx' hE3 hz3 d0 d1 ho4 hg4 hob hW3
        go_wp2_with (first | (go_at_call 72; refine Calls.mono (HDC.out _) ?_; intro e Yd h1; obtain ⟨h1, hY⟩ := h1; subst h1; subst hY) | (refine wpList_append_run rfl _ _ 59 rfl rfl rfl hrun ?_) | fail)
        go_roundw
        case rel => exact ⟨k + 1, by omega, by go_num, by rw [HF4.out], by rw [HF4.out], HO4, HB4, HE4⟩
        case measure => simp [intOf]; omega
      · have HDK := HDK0
        have HDC := Lib.hid (show ∀ X : World, Calls Try.prog 72 #[.int .u8 cv] X fun e w' => e = .returned (.int .i64 (3)) ∧ X = w' from HDX.out)
        have hx' : mvW (x, y) 3 = (x, wrap64 (y - 1)) := rfl
        obtain ⟨W3, hW3⟩ : ∃ W3, W3 = wr.alloc (.cells #[.int .i64 (x), .int .i64 (wrap64 (y - 1))] 61) := ⟨_, rfl⟩
        have hE3 : Ext wr W3 := by rw [hW3]; exact (Ext.refl _).alloc _
        have hz3 : W3.heap[wr.heap.size]? = some (.cells #[.int .i64 (x), .int .i64 (wrap64 (y - 1))] 61 (0, 0)) := by rw [hW3]; exact heap_alloc_new wr _
        obtain ⟨d0, d1⟩ := cells2 hz3
        obtain ⟨v4, X4, hrun, ho4, hg4⟩ := appendD_run (hO.out.ext hE3) (by have := lt_of_blk hb.out; have := hE3.size; omega) (by rw [ptsW_len, List.length_take]; omega) (x, wrap64 (y - 1)) wr.heap.size d0 d1 59
        have hob := own_from (hO.out.ext hE3)
        have HO4 := Lib.hid (show OwnD (w.heap.size + 1) X4 v4 (ptsW (X, Y) ((dirs s).take (k + 1))) from by rw [take_snoc HDK.out, ptsW_snoc, ← HXY.out, hx']; exact ho4)
        have HF4 := Lib.hid (show finW (X, Y) ((dirs s).take (k + 1)) = (x, wrap64 (y - 1)) from by rw [take_snoc HDK.out, finW_snoc, ← HXY.out]; exact hx')
        have HB4 := Lib.hid ((hg4.block w.heap.size (lt_of_blk (block_ext hE3 hb.out)) (fun e => by have := hob _ e.symm; omega)).trans (block_ext hE3 hb.out))
        have HE4 := Lib.hid (show Ext w X4 from grown_any (hE.out.trans hE3) hg4 (fun g e => by have := hob g e; omega))
        have HRUN := Lib.hid hrun
        rw [hW3] at hrun
        clear hx' hE3 hz3 d0 d1 ho4 hg4 hob hW3
        go_wp2_with (first | (go_at_call 72; refine Calls.mono (HDC.out _) ?_; intro e Yd h1; obtain ⟨h1, hY⟩ := h1; subst h1; subst hY) | (refine wpList_append_run rfl _ _ 59 rfl rfl rfl hrun ?_) | fail)
        go_roundw
        case rel => exact ⟨k + 1, by omega, by go_num, by rw [HF4.out], by rw [HF4.out], HO4, HB4, HE4⟩
        case measure => simp [intOf]; omega
      · have HDK := HDK0
        have HDC := Lib.hid (show ∀ X : World, Calls Try.prog 72 #[.int .u8 cv] X fun e w' => e = .returned (.int .i64 (-1)) ∧ X = w' from HDX.out)
        have hx' : mvW (x, y) 4 = (x, y) := rfl
        obtain ⟨W3, hW3⟩ : ∃ W3, W3 = wr.alloc (.cells #[.int .i64 (x), .int .i64 (y)] 61) := ⟨_, rfl⟩
        have hE3 : Ext wr W3 := by rw [hW3]; exact (Ext.refl _).alloc _
        have hz3 : W3.heap[wr.heap.size]? = some (.cells #[.int .i64 (x), .int .i64 (y)] 61 (0, 0)) := by rw [hW3]; exact heap_alloc_new wr _
        obtain ⟨d0, d1⟩ := cells2 hz3
        obtain ⟨v4, X4, hrun, ho4, hg4⟩ := appendD_run (hO.out.ext hE3) (by have := lt_of_blk hb.out; have := hE3.size; omega) (by rw [ptsW_len, List.length_take]; omega) (x, y) wr.heap.size d0 d1 59
        have hob := own_from (hO.out.ext hE3)
        have HO4 := Lib.hid (show OwnD (w.heap.size + 1) X4 v4 (ptsW (X, Y) ((dirs s).take (k + 1))) from by rw [take_snoc HDK.out, ptsW_snoc, ← HXY.out, hx']; exact ho4)
        have HF4 := Lib.hid (show finW (X, Y) ((dirs s).take (k + 1)) = (x, y) from by rw [take_snoc HDK.out, finW_snoc, ← HXY.out]; exact hx')
        have HB4 := Lib.hid ((hg4.block w.heap.size (lt_of_blk (block_ext hE3 hb.out)) (fun e => by have := hob _ e.symm; omega)).trans (block_ext hE3 hb.out))
        have HE4 := Lib.hid (show Ext w X4 from grown_any (hE.out.trans hE3) hg4 (fun g e => by have := hob g e; omega))
        have HRUN := Lib.hid hrun
        rw [hW3] at hrun
        clear hx' hE3 hz3 d0 d1 ho4 hg4 hob hW3
        go_wp2_with (first | (go_at_call 72; refine Calls.mono (HDC.out _) ?_; intro e Yd h1; obtain ⟨h1, hY⟩ := h1; subst h1; subst hY) | (refine wpList_append_run rfl _ _ 59 rfl rfl rfl hrun ?_) | fail)
        go_roundw
        case rel => exact ⟨k + 1, by omega, by go_num, by rw [HF4.out], by rw [HF4.out], HO4, HB4, HE4⟩
        case measure => simp [intOf]; omega
    · obtain rfl : k = s.size := by omega
      have HF := Lib.hid (show OwnD (w.heap.size + 1) wr u5 (ptsW (X, Y) (dirs s)) from by
        have := hO.out
        rw [List.take_of_length_le (by rw [dirs_len]; exact Nat.le_refl _)] at this
        exact this)
      clear hO
      go_wp2
      go_ret
      exact ⟨_, rfl, HF.out.weak (by omega), hE.out⟩
end Go.Proofs.Ytppjnpempgpkaaa
namespace Go.Proofs.Ytppjnpempgpkaaa
open Go.RowKit Go.Shelf
set_option linter.unusedVariables false
set_option linter.unusedSimpArgs false
attribute [local go_sem] Oper.semAt_some

theorem pair_eq (a b c d : Int) (V : World) : (Op.equalIn 10000 61 (.agg #[.int .i64 a, .int .i64 b]) (.agg #[.int .i64 c, .int .i64 d])).run Try.prog V = .ok (decide ((a, b) = (c, d))) V := by
  rw [pt_eq]
  obtain ⟨i0, hi0, hz0, hzz, hz2⟩ := info_parts Try.info3
  rw [show (10000 : Nat) = 9999 + 1 from rfl, run_equalIn_array V 9999 _ _ Try.underlying61 hi0]
  rw [show List.range 2 = [0, 1] from rfl]
  have hce : Try.prog.cellsOf 3 = 1 := by kernel_rfl
  by_cases h1 : a = c <;> by_cases h2 : b = d <;> simp [Op.eqItems, part, go_sem, h1, h2, hce]
set_option maxRecDepth 100000 in
set_option maxHeartbeats 4000000 in
theorem rcheckChain_c (X Y : Int) (s : ByteArray) (w : World) (hs5 : s.size ≤ 5000) :
    Calls Try.prog 28 #[.agg #[.int .i64 X, .int .i64 Y, .string s]] w fun e w' => e = .returned (.int .i64 (chkC X Y s)) ∧ Ext w w' := by
  obtain ⟨r, hr⟩ : ∃ r, r = chkC X Y s := ⟨_, rfl⟩
  rw [← hr]
  have HR := Lib.hid hr
  clear hr
  obtain ⟨w1, hw1⟩ : ∃ w1, w1 = w.alloc (.cells #[.int .i64 X, .int .i64 Y, .string s] 40) := ⟨_, rfl⟩
  have HE1 := Lib.hid (show Ext w w1 from by rw [hw1]; exact (Ext.refl w).alloc _)
  have B0 := Lib.hid (show w1.heap[w.heap.size]? = some (.cells #[.int .i64 X, .int .i64 Y, .string s] 40 (0, 0)) from by rw [hw1]; exact heap_alloc_new w _)
  obtain ⟨c0, c1, c2⟩ := cells3 B0.out
  obtain ⟨n, hn⟩ : ∃ n, n = s.size := ⟨_, rfl⟩
  have HN := Lib.hid hn
  by_cases h1 : inn 4 80 [(s.size : Int)] = false
  · have HV := Lib.hid (show r = 6 from by rw [HR.out]; unfold chkC; rw [if_pos h1])
    have hq : ∃ q1 q2 : Bool, decide ((s.size : Int) < 4) = q1 ∧ decide (80 < (s.size : Int)) = q2 ∧ (q1 || q2) = true := ⟨_, _, rfl, rfl, (by
      rw [← Bool.not_eq_true, inn_one] at h1
      simp; omega)⟩
    obtain ⟨q1, q2, hq1, hq2, hqq⟩ := hq
    have hq3 : decide (s.size < 4) = q1 := by rw [← hq1]; exact decide_eq_decide.2 (by omega)
    have hq4 : decide (80 < s.size) = q2 := by rw [← hq2]; exact decide_eq_decide.2 (by omega)
    clear h1 HR HN hn
    go_enter Try.func28, Try.ntmps28
    go_upto_region 1 with fail
    rw [← hw1]
    clear hw1
    cases q1 <;> cases q2 <;> first
      | (exfalso; revert hqq; decide)
      | (go_wp2
         go_ret
         exact ⟨ret_int HV.out.symm, HE1.out⟩)
  rw [Bool.not_eq_false] at h1
  have hsz := inn_one.1 h1
  have HC2 := Lib.hid (show r = if s.data.toList.all okL = false then 8 else if (ptsW (X, Y) (dirs s)).all onB' = false then 3 else if (decide ((ptsW (X, Y) (dirs s)).tail.Nodup) && decide (finW (X, Y) (dirs s) = (X, Y))) = false then 19 else 0 from by rw [HR.out]; unfold chkC; rw [if_neg (by rw [h1]; simp)])
  have hq1 : decide ((s.size : Int) < 4) = false := decide_eq_false (by omega)
  have hq2 : decide (80 < (s.size : Int)) = false := decide_eq_false (by omega)
  have hq3 : decide (s.size < 4) = false := decide_eq_false (by omega)
  have hq4 : decide (80 < s.size) = false := decide_eq_false (by omega)
  have hs80 : s.size ≤ 80 := by omega
  have hs4 : 4 ≤ s.size := by omega
  have hn63 : s.size ≤ 9223372036854775807 := by omega
  clear h1 HR hsz HN hn hs5
  go_enter Try.func28, Try.ntmps28
  go_upto_region 1 with fail
  rw [← hw1]
  clear hw1
  go_wp2
  clear hq1 hq2 hq3 hq4 c0 c1 c2
  go_loopw [3] (fun i wr => ∃ k : Nat, k ≤ s.size ∧ i = .int .i64 (k : Int) ∧ Hid ((s.data.toList.take k).all okL = true) ∧ Hid (wr.heap[w.heap.size]? = some (.cells #[.int .i64 X, .int .i64 Y, .string s] 40 (0, 0))) ∧ Hid (Ext w wr)) (fun i wr => s.size - (intOf i).toNat)
  case atStart => exact ⟨0, Nat.zero_le _, rfl, (by rfl : _ = true), B0, HE1⟩
  case round =>
    clear B0 HE1
    obtain ⟨k, hk, rfl, hI, hb, hE⟩ := hrel
    obtain ⟨c0, c1, c2⟩ := cells3 hb.out
    by_cases hlt : k < s.size
    · have hkb : (k : Int) < (s.size : Int) := by omega
      have hka : (0 : Int) ≤ (k : Int) := by omega
      have hdk : s.data.toList[k]? = some (s[k]'hlt) := by rw [Array.getElem?_toList, Array.getElem?_eq_getElem (by simpa using hlt)]; rfl
      have HDX := Lib.hid (dir_c ((s[k]'hlt).toNat : Int) wr)
      obtain ⟨cv, hcv⟩ : ∃ cv : Int, cv = ((s[k]'hlt).toNat : Int) := ⟨_, rfl⟩
      have hix : ∀ W : World, (Instr.index 9 (.string s) (.int .i64 (k : Int))).run Try.prog W = .ok (.int .u8 cv) W := fun W => by
        rw [run_index_string (h := Try.underlying9), dif_pos ⟨hka, hkb⟩, hcv]
        rfl
      have HAT := Lib.hid (show (s.data.toList.take (k + 1)).all okL = okL (s[k]'hlt) from by rw [take_snoc hdk, List.all_append, hI.out]; simp)
      rw [dirV_is, ← hcv] at HDX
      obtain ⟨dv, hdv⟩ : ∃ dv : Int, dv = if dirU (s[k]'hlt) < 4 then (dirU (s[k]'hlt) : Int) else -1 := ⟨_, rfl⟩
      rw [← hdv] at HDX
      by_cases hok : dirU (s[k]'hlt) < 4
      · have hd0 : ¬ dv < 0 := by rw [hdv, if_pos hok]; omega
        have HA2 := Lib.hid (HAT.out.trans (show okL (s[k]'hlt) = true from decide_eq_true hok))
        clear hdk hcv hdv hok
        go_wp2_with (first | (go_at_call 72; refine Calls.mono HDX.out ?_; intro e Yd h1; obtain ⟨h1, hY⟩ := h1; subst h1; subst hY) | fail)
        go_roundw
        case rel => exact ⟨k + 1, by omega, by go_num, HA2, hb, hE⟩
        case measure => simp [intOf]; omega
      · have hd0 : dv < 0 := by rw [hdv, if_neg hok]; omega
        have HV := Lib.hid (show r = 8 from by
          rw [HC2.out, if_pos]
          have h2 := HAT.out
          rw [show okL (s[k]'hlt) = false from decide_eq_false hok, List.all_eq_false] at h2
          rw [List.all_eq_false]
          obtain ⟨y, hy, h3⟩ := h2
          exact ⟨y, List.mem_of_mem_take hy, h3⟩)
        clear hdk hcv hdv hok
        go_wp2_with (first | (go_at_call 72; refine Calls.mono HDX.out ?_; intro e Yd h1; obtain ⟨h1, hY⟩ := h1; subst h1; subst hY) | fail)
        go_ret
        exact ⟨ret_int HV.out.symm, hE.out⟩
    · obtain rfl : k = s.size := by omega
      have HC3 := Lib.hid (show r = if (ptsW (X, Y) (dirs s)).all onB' = false then 3 else if (decide ((ptsW (X, Y) (dirs s)).tail.Nodup) && decide (finW (X, Y) (dirs s) = (X, Y))) = false then 19 else 0 from by
        rw [HC2.out, if_neg]
        have := hI.out
        rw [List.take_of_length_le (by simp)] at this
        rw [this]; simp)
      clear hI HC2
      have hwi : ∃ q1 q2 q3 q4 : Bool, decide (X < 0) = q1 ∧ decide (8 < X) = q2 ∧ decide (Y < 0) = q3 ∧ decide (8 < Y) = q4 := ⟨_, _, _, _, rfl, rfl, rfl, rfl⟩
      by_cases hxy : (0 ≤ X ∧ X ≤ 8) ∧ 0 ≤ Y ∧ Y ≤ 8
      · have hq1 : decide (X < 0) = false := decide_eq_false (by omega)
        have hq2 : decide (8 < X) = false := decide_eq_false (by omega)
        have hq3 : decide (Y < 0) = false := decide_eq_false (by omega)
        have hq4 : decide (8 < Y) = false := decide_eq_false (by omega)
        clear hwi
        obtain ⟨l, hl⟩ : ∃ l, l = ptsW (X, Y) (dirs s) := ⟨_, rfl⟩
        have HCO := Lib.hid (fun W => rcorners_c X Y s W (by omega))
        have hlen : l.length = s.size + 1 := by rw [hl, ptsW_len, dirs_len]
        rw [← hl] at HCO HC3
        have HL := Lib.hid hl; have HLEN := Lib.hid hlen; have HXY := Lib.hid hxy
        clear hl hlen hxy
        go_wp2_with (first | (go_at_call 38; refine Calls.mono (HCO.out _) ?_; intro e w5 h1; obtain ⟨v, h1, ho, hE5⟩ := h1; subst h1; have HO := Lib.hid (ho.weak hE.out.size); have HE5 := Lib.hid (hE.out.trans hE5); clear ho hE5; obtain ⟨av, cap, hv⟩ := HO.out.shape; subst hv) | fail)
        have hl81 : l.length ≤ 9223372036854775806 := by have := HLEN.out; omega
        clear c0 c1 c2 hq1 hq2 hq3 hq4 hb hE HCO
        go_loopw [5] (fun i wr => ∃ k : Nat, k ≤ l.length ∧ i = .int .i64 (k : Int) ∧ Hid ((l.take k).all onB' = true) ∧ Hid (OwnD w.heap.size wr (.slice av l.length cap) l) ∧ Hid (Ext w wr)) (fun i wr => l.length - (intOf i).toNat)
        case atStart => exact ⟨0, Nat.zero_le _, rfl, (by rfl : _ = true), HO, HE5⟩
        case round =>
          clear HO HE5
          obtain ⟨k, hk, rfl, hI, hO, hE⟩ := hrel
          by_cases hlt : k < l.length
          · obtain ⟨⟨px, py⟩, hp⟩ := get_some hlt
            obtain ⟨g, cap', e1, -, -, d0, d1⟩ := hO.out.at hp
            injection e1 with e2 e3 e4
            subst e2
            clear e3 e4
            dsimp only at d0 d1
            have hkb : (k : Int) < (l.length : Int) := by omega
            have hka : (0 : Int) ≤ (k : Int) := by omega
            have HAT := Lib.hid (show (l.take (k + 1)).all onB' = onB' (px, py) from by rw [take_snoc hp, List.all_append, hI.out]; simp)
            have HP := Lib.hid hp
            have hwi : ∃ q1 q2 q3 q4 : Bool, decide (px < 0) = q1 ∧ decide (8 < px) = q2 ∧ decide (py < 0) = q3 ∧ decide (8 < py) = q4 := ⟨_, _, _, _, rfl, rfl, rfl, rfl⟩
            clear hp
            by_cases hon : (0 ≤ px ∧ px ≤ 8) ∧ 0 ≤ py ∧ py ≤ 8
            · have hq1 : decide (px < 0) = false := decide_eq_false (by omega)
              have hq2 : decide (8 < px) = false := decide_eq_false (by omega)
              have hq3 : decide (py < 0) = false := decide_eq_false (by omega)
              have hq4 : decide (8 < py) = false := decide_eq_false (by omega)
              have HA2 := Lib.hid (HAT.out.trans (show onB' (px, py) = true from by unfold onB'; exact decide_eq_true hon))
              clear hwi hon
              go_wp2
              go_roundw
              case rel => exact ⟨k + 1, by omega, by go_num, HA2, hO, hE⟩
              case measure => simp [intOf]; omega
            · obtain ⟨q1, q2, q3, q4, hq1, hq2, hq3, hq4⟩ := hwi
              have hqq : (q1 || q2 || q3 || q4) = true := by rw [← hq1, ← hq2, ← hq3, ← hq4]; simp; omega
              have HV := Lib.hid (show r = 3 from by
                rw [HC3.out, if_pos]
                rw [List.all_eq_false]
                exact ⟨(px, py), List.mem_of_getElem? HP.out, by unfold onB'; simpa using hon⟩)
              clear hon HC3
              cases q1 <;> cases q2 <;> cases q3 <;> cases q4 <;> first
                | (exfalso; revert hqq; decide)
                | (go_wp2
                   go_ret
                   exact ⟨ret_int HV.out.symm, hE.out⟩)
          · obtain rfl : k = l.length := by omega
            have hall : l.all onB' = true := by have := hI.out; rwa [List.take_of_length_le (Nat.le_refl _)] at this
            have HC4 := Lib.hid (show r = if (decide (l.tail.Nodup) && decide (finW (X, Y) (dirs s) = (X, Y))) = false then 19 else 0 from by rw [HC3.out, if_neg (by rw [hall]; simp)])
            obtain ⟨last, hlast⟩ : ∃ last, l.length = last + 1 := ⟨s.size, HLEN.out⟩
            have hls : last = s.size := by have := HLEN.out; omega
            have hp0 : l[0]? = some (X, Y) := by rw [HL.out]; cases dirs s <;> rfl
            obtain ⟨⟨fx, fy⟩, hf⟩ : ∃ p, p = finW (X, Y) (dirs s) := ⟨_, rfl⟩
            have hpl : l[last]? = some (fx, fy) := by rw [HL.out, hf, hls, ← dirs_len]; exact ptsW_last _ _
            have hcl : (fx, fy) = (X, Y) → (decide (l.tail.Nodup) && decide (finW (X, Y) (dirs s) = (X, Y))) = decide ((l.take last).Nodup) := fun he => by
              have hpt : ptsW (X, Y) (dirs s) = pts (X, Y) (dirs s) := ptsW_is _ _ 8 (by rw [dirs_len]; omega) (by have := HXY.out; dsimp only; omega)
              have hfin : finW (X, Y) (dirs s) = fin (X, Y) (dirs s) := by
                have e1 := ptsW_last (X, Y) (dirs s)
                rw [hpt, pts_last] at e1
                exact (Option.some.inj e1).symm
              rw [HL.out, hpt, hfin, ← clsd_later (by intro e; have := dirs_len s; rw [e] at this; simp at this; omega)]
              unfold clsd
              rw [← hfin, ← hf, he, decide_eq_true rfl, Bool.true_and]
              congr 2
              rw [pts_eq, List.take_append_of_le_length (by simp [sts_len, dirs_len, hls]), List.take_of_length_le (by simp [sts_len, dirs_len, hls])]
            have HCL := Lib.hid hcl; have HF := Lib.hid hf
            rw [← hf] at HC4
            clear hf hcl hls hall hI HC3
            obtain ⟨g, cap', e1, -, -, d0, d1⟩ := hO.out.at hp0
            injection e1 with e2 e3 e4
            subst e2
            clear e3 e4
            obtain ⟨g', cap'', e1, -, -, d2, d3⟩ := hO.out.at hpl
            injection e1 with e2 e3 e4
            cases e2
            clear e3 e4
            dsimp only at d0 d1 d2 d3
            rw [Nat.zero_mul] at d0 d1
            rw [hlast] at hO hlt hk hl81 ⊢
            have h0a : (0 : Int) < ((last + 1 : Nat) : Int) := by omega
            have h0b : (0 : Int) < (last : Int) + 1 := by omega
            have h0c : (0 : Int) ≤ (last : Int) := by omega
            have h0d : (last : Int) < ((last + 1 : Nat) : Int) := by omega
            have h0e : (last : Int) < (last : Int) + 1 := by omega
            have h0f : (last : Int).toNat = last := by omega
            have KQ := Lib.hid (show IntKind.i64.wrap (last : Int) = (last : Int) from wrapi64 _ (by omega) (by omega))
            have KR := Lib.hid (show wrap64 (last : Int) = (last : Int) from by rw [wrap_eq]; exact KQ.out)
            have HPE := Lib.hid (pair_eq X Y fx fy)
            have HE := hE
            clear hp0
            by_cases he : (fx, fy) = (X, Y)
            · have heq : ∀ V, (Op.equalIn 10000 61 (.agg #[.int .i64 X, .int .i64 Y]) (.agg #[.int .i64 fx, .int .i64 fy])).run Try.prog V = .ok true V := fun V => by rw [HPE.out V, decide_eq_true he.symm]
              have HC5 := Lib.hid (show r = if (decide ((l.take last).Nodup)) = false then 19 else 0 from by rw [HC4.out]; have := HCL.out he; rw [← HF.out] at this; rw [this])
              clear HC4 HCL HPE
              have kq := KQ.out
              go_upto_region 17 with fail
              go_quiet (fail)
              clear d0 d1 d2 d3 heq
              go_wp2
              go_loopw [7] (fun i wr' => ∃ a : Nat, a + 1 ≤ last ∧ i = .int .i64 ((a : Int) + 1) ∧ Hid ((l.take (a + 1)).Nodup) ∧ Hid (OwnD w.heap.size wr' (.slice (some ⟨g, 0, none⟩) (last + 1) cap) l) ∧ Hid (Ext w wr')) (fun i wr' => last + 1 - (intOf i).toNat)
              case atStart => exact ⟨0, by have := HLEN.out; omega, by go_num, Lib.hid (by rw [show l.take (0 + 1) = [(X, Y)] from by rw [HL.out]; cases dirs s <;> rfl]; simp), Lib.hid (hO.out.ext ((Ext.refl _).drewN _)), Lib.hid (hE.out.drewN _)⟩
              case round =>
                clear hO hE HE
                obtain ⟨a, ha, rfl, hND, hO, hE⟩ := hrel
                by_cases hla : a + 1 < last
                · obtain ⟨⟨px, py⟩, hp⟩ := get_some (xs := l) (k := a + 1) (by rw [hlast]; omega)
                  have HP := Lib.hid hp
                  have hia : (a : Int) + 1 < (last : Int) := by omega
                  clear hp
                  go_wp2
                  go_loopw [8] (fun j wr' => ∃ m : Nat, m ≤ a + 1 ∧ j = .int .i64 (m : Int) ∧ Hid (∀ z, z < m → l[z]? ≠ some (px, py)) ∧ Hid (OwnD w.heap.size wr' (.slice (some ⟨g, 0, none⟩) (last + 1) cap) l) ∧ Hid (Ext w wr')) (fun j wr' => a + 1 - (intOf j).toNat)
                  case atStart => exact ⟨0, Nat.zero_le _, rfl, Lib.hid (fun z hz => by omega), hO, hE⟩
                  case round =>
                    clear hO hE
                    obtain ⟨m, hm, rfl, hI, hO, hE⟩ := hrel
                    by_cases hlm : m < a + 1
                    · obtain ⟨⟨qx, qy⟩, hq⟩ := get_some (xs := l) (k := m) (by rw [hlast]; omega)
                      have HQ := Lib.hid hq
                      obtain ⟨g', cap'', e1, -, -, d0, d1⟩ := hO.out.at HP.out
                      injection e1 with e2 e3 e4
                      cases e2
                      clear e3 e4
                      obtain ⟨g', cap'', e1, -, -, d2, d3⟩ := hO.out.at hq
                      injection e1 with e2 e3 e4
                      cases e2
                      clear e3 e4
                      dsimp only at d0 d1 d2 d3
                      have ima : (0 : Int) ≤ (m : Int) := by omega
                      have imb : (m : Int) < (a : Int) + 1 := by omega
                      have imc : (m : Int) < ((last + 1 : Nat) : Int) := by omega
                      have imd : (m : Int) < (last : Int) + 1 := by omega
                      have iaa : (0 : Int) ≤ (a : Int) + 1 := by omega
                      have iab : (a : Int) + 1 < ((last + 1 : Nat) : Int) := by omega
                      have iac : (a : Int) + 1 < (last : Int) + 1 := by omega
                      have iad : ((a : Int) + 1).toNat = a + 1 := by omega
                      have imf : (m : Int).toNat = m := by omega
                      have HPE := Lib.hid (pair_eq px py qx qy)
                      clear hq
                      by_cases hpq : (px, py) = (qx, qy)
                      · have heq : ∀ V, (Op.equalIn 10000 61 (.agg #[.int .i64 px, .int .i64 py]) (.agg #[.int .i64 qx, .int .i64 qy])).run Try.prog V = .ok true V := fun V => by rw [HPE.out V, decide_eq_true hpq]
                        have HV := Lib.hid (show r = 19 from by
                          rw [HC5.out, if_pos]
                          refine decide_eq_false fun hnd => ?_
                          have h1 : l.take (a + 2) = l.take (a + 1) ++ [(px, py)] := take_snoc HP.out
                          have h2 : (l.take (a + 2)).Nodup := hnd.sublist (by
                            have : l.take (a + 2) = (l.take last).take (a + 2) := by rw [List.take_take, Nat.min_eq_left (by omega)]
                            rw [this]
                            exact List.take_sublist _ _)
                          rw [h1, List.nodup_append] at h2
                          exact h2.2.2 (px, py) (by rw [hpq]; exact List.mem_iff_getElem?.2 ⟨m, by rw [List.getElem?_take_of_lt hlm]; exact HQ.out⟩) (px, py) (by simp) rfl)
                        clear hpq HPE
                        go_upto_region 25 with fail
                        go_quiet (fail)
                        go_wp2
                        go_ret
                        exact ⟨ret_int HV.out.symm, hE.out.drewN _⟩
                      · have heq : ∀ V, (Op.equalIn 10000 61 (.agg #[.int .i64 px, .int .i64 py]) (.agg #[.int .i64 qx, .int .i64 qy])).run Try.prog V = .ok false V := fun V => by rw [HPE.out V, decide_eq_false hpq]
                        have HI2 := Lib.hid (show ∀ z, z < m + 1 → l[z]? ≠ some (px, py) from fun z hz => by
                          by_cases e : z = m
                          · subst e; rw [HQ.out]; intro h; exact hpq (Option.some.inj h).symm
                          · exact hI.out z (by omega))
                        clear hpq HPE
                        go_upto_region 25 with fail
                        go_quiet (fail)
                        clear d0 d1 d2 d3 heq
                        go_wp2
                        go_roundw
                        case rel => exact ⟨m + 1, by omega, by go_num, HI2, Lib.hid (hO.out.ext ((Ext.refl _).drewN _)), Lib.hid (hE.out.drewN _)⟩
                        case measure => simp [intOf]; omega
                    · obtain rfl : m = a + 1 := by omega
                      have HN2 := Lib.hid (show (l.take (a + 1 + 1)).Nodup from by
                        rw [take_snoc HP.out, List.nodup_append]
                        refine ⟨hND.out, by simp, fun x hx y hy e => ?_⟩
                        simp at hy
                        subst hy; subst e
                        obtain ⟨z, hz⟩ := List.mem_iff_getElem?.1 hx
                        have hz2 := (List.getElem?_eq_some_iff.1 hz).1
                        rw [List.length_take] at hz2
                        rw [List.getElem?_take_of_lt (by omega)] at hz
                        exact hI.out z (by omega) hz)
                      go_wp2
                      go_roundw
                      case rel => exact ⟨a + 1, by omega, by go_num, HN2, hO, hE⟩
                      case measure => simp [intOf]; omega
                · obtain rfl : last = a + 1 := by omega
                  have HV := Lib.hid (show r = 0 from by rw [HC5.out, if_neg (by rw [decide_eq_true hND.out]; simp)])
                  go_wp2
                  go_ret
                  exact ⟨ret_int HV.out.symm, hE.out⟩
            · have heq : ∀ V, (Op.equalIn 10000 61 (.agg #[.int .i64 X, .int .i64 Y]) (.agg #[.int .i64 fx, .int .i64 fy])).run Try.prog V = .ok false V := fun V => by rw [HPE.out V, decide_eq_false (fun h => he h.symm)]
              have HV := Lib.hid (show r = 19 from by rw [HC4.out, decide_eq_false he, Bool.and_false, if_pos rfl])
              clear HC4 HCL HPE he
              have kq := KQ.out
              go_upto_region 17 with fail
              go_quiet (fail)
              go_wp2
              go_ret
              exact ⟨ret_int HV.out.symm, hE.out.drewN _⟩
      · obtain ⟨q1, q2, q3, q4, hq1, hq2, hq3, hq4⟩ := hwi
        have hqq : (q1 || q2 || q3 || q4) = true := by rw [← hq1, ← hq2, ← hq3, ← hq4]; simp; omega
        have HV := Lib.hid (show r = 3 from by
          rw [HC3.out, if_pos]
          rw [List.all_eq_false]
          exact ⟨(X, Y), by cases dirs s <;> simp [ptsW], by unfold onB'; simpa using hxy⟩)
        clear hxy HC3
        cases q1 <;> cases q2 <;> cases q3 <;> cases q4 <;> first
          | (exfalso; revert hqq; decide)
          | (go_wp2
             go_ret
             exact ⟨ret_int HV.out.symm, hE.out⟩)
end Go.Proofs.Ytppjnpempgpkaaa
