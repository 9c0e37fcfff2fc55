/- Chains: letters, lists of corners in memory; corners, by its contract. -/
import Derived.Test.YtppjnpempgpkaaaGreatH2
import Derived.Test.YtppjnpempgpkaaaGreatN1
import Derived.Lib.ConvBytes
import Derived.Lib.Bytealg
import Derived.Laws.Externs
namespace Go.Proofs.YtppjnpempgpkaaaGreat
open Go.RowKit Go.Shelf
set_option linter.unusedVariables false
set_option linter.unusedSimpArgs false
attribute [local go_sem] Oper.semAt_some

def dirU (b : UInt8) : Nat := if b = 69 then 0 else if b = 78 then 1 else if b = 87 then 2 else if b = 83 then 3 else 4
def dirs (s : ByteArray) : List Nat := s.data.toList.map dirU
theorem dirs_len (s : ByteArray) : (dirs s).length = s.size := by unfold dirs; rw [List.length_map]; simp
theorem dirU_num (b : UInt8) : dirU b = if (b.toNat : Int) = 69 then 0 else if (b.toNat : Int) = 78 then 1 else if (b.toNat : Int) = 87 then 2 else if (b.toNat : Int) = 83 then 3 else 4 := by
  have e : ∀ n : Nat, n < 256 → (b = UInt8.ofNat n ↔ (b.toNat : Int) = (n : Int)) := fun n hn => by
    constructor
    · rintro rfl; simp [UInt8.toNat_ofNat]; omega
    · intro h
      apply UInt8.toNat_inj.1
      simp [UInt8.toNat_ofNat]; omega
  have e1 := e 69 (by omega)
  have e2 := e 78 (by omega)
  have e3 := e 87 (by omega)
  have e4 := e 83 (by omega)
  unfold dirU
  simp only [show (69 : UInt8) = UInt8.ofNat 69 from rfl, show (78 : UInt8) = UInt8.ofNat 78 from rfl, show (87 : UInt8) = UInt8.ofNat 87 from rfl, show (83 : UInt8) = UInt8.ofNat 83 from rfl, e1, e2, e3, e4]
  rfl
/-- A step, as the machine counts. -/
def mvW (p : Pt) (k : Nat) : Pt := (if k = 0 then wrap64 (p.1 + 1) else if k = 2 then wrap64 (p.1 - 1) else p.1, if k = 1 then wrap64 (p.2 + 1) else if k = 3 then wrap64 (p.2 - 1) else p.2)
def finW : Pt → List Nat → Pt
  | p, [] => p
  | p, k :: ks => finW (mvW p k) ks
def ptsW : Pt → List Nat → List Pt
  | p, [] => [p]
  | p, k :: ks => p :: ptsW (mvW p k) ks
theorem finW_snoc : ∀ (p : Pt) (ks : List Nat) (k : Nat), finW p (ks ++ [k]) = mvW (finW p ks) k
  | p, [], k => rfl
  | p, j :: ks, k => by show finW (mvW p j) (ks ++ [k]) = _; rw [finW_snoc]; rfl
theorem ptsW_snoc : ∀ (p : Pt) (ks : List Nat) (k : Nat), ptsW p (ks ++ [k]) = ptsW p ks ++ [mvW (finW p ks) k]
  | p, [], k => rfl
  | p, j :: ks, k => by show p :: ptsW (mvW p j) (ks ++ [k]) = _; rw [ptsW_snoc]; rfl
theorem ptsW_len : ∀ (p : Pt) (ks : List Nat), (ptsW p ks).length = ks.length + 1
  | p, [] => rfl
  | p, k :: ks => by show (ptsW (mvW p k) ks).length + 1 = _; rw [ptsW_len]; rfl
theorem wrap_eq (a : Int) : wrap64 a = IntKind.i64.wrap a := by
  unfold wrap64 IntKind.wrap
  simp [IntKind.bits, IntKind.signed]
  try omega
theorem ptsW_last : ∀ (p : Pt) (ks : List Nat), (ptsW p ks)[ks.length]? = some (finW p ks)
  | p, [] => rfl
  | p, k :: ks => by
    show (p :: ptsW (mvW p k) ks)[ks.length + 1]? = some (finW (mvW p k) ks)
    rw [List.getElem?_cons_succ]
    exact ptsW_last (mvW p k) ks
theorem mvW_is {p : Pt} {k : Nat} (h : (-100000 < p.1 ∧ p.1 < 100000) ∧ -100000 < p.2 ∧ p.2 < 100000) : mvW p k = mv p k := by
  obtain ⟨x, y⟩ := p
  dsimp only at h
  have e1 := wrapi64 (x + 1) (by omega) (by omega)
  have e2 := wrapi64 (x - 1) (by omega) (by omega)
  have e3 := wrapi64 (y + 1) (by omega) (by omega)
  have e4 := wrapi64 (y - 1) (by omega) (by omega)
  unfold mvW mv mvx mvy
  dsimp only
  rw [wrap_eq, wrap_eq, wrap_eq, wrap_eq, e1, e2, e3, e4]
  refine Prod.ext ?_ ?_
  · dsimp only; split
    · rfl
    · split <;> omega
  · dsimp only; split
    · rfl
    · split <;> omega
theorem mv_near (p : Pt) (k : Nat) : (p.1 - 1 ≤ (mv p k).1 ∧ (mv p k).1 ≤ p.1 + 1) ∧ p.2 - 1 ≤ (mv p k).2 ∧ (mv p k).2 ≤ p.2 + 1 := by
  unfold mv mvx mvy
  dsimp only
  refine ⟨?_, ?_⟩
  · split
    · omega
    · split <;> omega
  · split
    · omega
    · split <;> omega
theorem ptsW_is : ∀ (ks : List Nat) (p : Pt) (B : Int), B + ks.length < 100000 → (-B ≤ p.1 ∧ p.1 ≤ B) ∧ (-B ≤ p.2 ∧ p.2 ≤ B) → ptsW p ks = pts p ks
  | [], p, B, h1, h2 => rfl
  | k :: ks, p, B, h1, h2 => by
    rw [List.length_cons] at h1
    have h3 := mv_near p k
    show p :: ptsW (mvW p k) ks = p :: pts (mv p k) ks
    rw [mvW_is (by omega), ptsW_is ks (mv p k) (B + 1) (by omega) (by omega)]
def flC : List Pt → List Value
  | [] => []
  | p :: l => .int .i64 p.1 :: .int .i64 p.2 :: flC l
theorem flC_length : ∀ l, (flC l).length = l.length * 2
  | [] => rfl
  | p :: l => by simp [flC, flC_length l]; omega
theorem flC_append : ∀ l m, flC (l ++ m) = flC l ++ flC m
  | [], m => rfl
  | p :: l, m => by simp [flC, flC_append l m]
theorem flC_get : ∀ (l : List Pt) (i : Nat) (p : Pt), l[i]? = some p → (flC l)[i * 2]? = some (.int .i64 p.1) ∧ (flC l)[i * 2 + 1]? = some (.int .i64 p.2)
  | [], i, p, h => by simp at h
  | q :: l, 0, p, h => by simp at h; subst h; simp [flC]
  | q :: l, i + 1, p, h => by
    have := flC_get l i p (by simpa using h)
    rw [show (i + 1) * 2 = i * 2 + 1 + 1 from by omega]
    simpa [flC] using this
/-- A list of corners of the call's own. -/
def OwnC (B : Nat) (w : World) (v : Value) (l : List Pt) : Prop := w.ownsRow B 146 2 v l.length (flC l)
theorem OwnC.ext {B : Nat} {w w' : World} {v : Value} {l : List Pt} (h : OwnC B w v l) (hb : Ext w w') : OwnC B w' v l := ownsRow_ext h hb
theorem OwnC.shape {B : Nat} {w : World} {v : Value} {l : List Pt} (h : OwnC B w v l) : ∃ a cap, v = .slice a l.length cap := own_shape h
theorem OwnC.weak {B C : Nat} {w : World} {v : Value} {l : List Pt} (h : OwnC B w v l) (hb : C ≤ B) : OwnC C w v l := by
  obtain ⟨q1, q2⟩ := h
  refine ⟨q1, q2.imp id ?_⟩
  rintro ⟨g, cap, cur, rfl, hgb, r⟩
  exact ⟨g, cap, cur, rfl, Nat.le_trans hb hgb, r⟩
theorem OwnC.at {B : Nat} {w : World} {v : Value} {l : List Pt} (h : OwnC B w v l) {i : Nat} {p : Pt} (hp : l[i]? = some p) : ∃ g cap, v = .slice (some ⟨g, 0, none⟩) l.length cap ∧ l.length ≤ cap ∧ cap ≤ 9223372036854775807 ∧ w.cell? ⟨g, i * 2, none⟩ = some (.int .i64 p.1) ∧ w.cell? ⟨g, i * 2 + 1, none⟩ = some (.int .i64 p.2) := by
  have hi := (List.getElem?_eq_some_iff.1 hp).1
  obtain ⟨_, ⟨rfl, h0⟩ | ⟨g, cap, cur, rfl, h1, h2, h3, h4, h5, h6⟩⟩ := h
  · omega
  · obtain ⟨e1, e2⟩ := flC_get l i p hp
    rw [← h6, List.getElem?_take_of_lt (by omega), Array.getElem?_toList] at e1 e2
    exact ⟨g, cap, rfl, h3, by unfold maxLen at h4; omega, cell_of_blk h2 e1, cell_of_blk h2 e2⟩
theorem OwnC.new (w : World) (B n : Nat) (p : Pt) (hn : n = w.heap.size) (hB : B ≤ n) : OwnC B (w.alloc (.cells #[.int .i64 p.1, .int .i64 p.2] 146)) (.slice (some ⟨n, 0, none⟩) 1 1) [p] := by
  subst hn
  exact ⟨flC_length [p], .inr ⟨w.heap.size, 1, #[.int .i64 p.1, .int .i64 p.2], rfl, hB, heap_alloc_new w _, Nat.le_refl _, by unfold maxLen; decide, by simp, rfl⟩⟩
theorem OwnC.grown {B b : Nat} {w w' : World} {v : Value} {l : List Pt} (h : OwnC B w v l) (hg : w.grownBy w' (some b)) (hb : b < B) : OwnC B w' v l := by
  obtain ⟨h1, h2⟩ := h
  refine ⟨h1, h2.imp id ?_⟩
  rintro ⟨g, cap, cur, rfl, hgb, hh, r⟩
  refine ⟨g, cap, cur, rfl, hgb, ?_, r⟩
  rw [hg.block g (lt_of_blk hh) (by intro h; cases h; omega)]
  exact hh
theorem infoCorner : (Tryz.prog.info? 146).map (fun i => (i.zero, i.size, i.bytes)) = some (some (.agg #[.int .i64 0, .int .i64 0]), 2, 16) := by kernel_rfl
theorem appendC_run {X : World} {B : Nat} {v : Value} {l : List Pt} (h : OwnC B X v l) (hB : B ≤ X.heap.size) (hl : l.length ≤ 1000) (p : Pt) (b : Nat) (h0 : X.cell? ⟨b, 0, none⟩ = some (.int .i64 p.1)) (h1 : X.cell? ⟨b, 1, none⟩ = some (.int .i64 p.2)) (ty : TypeId) :
    ∃ v' X', (Builtin.append_ #[147, 147] ty #[v, .slice (some ⟨b, 0, none⟩) 1 1]).run Tryz.prog X = .ok v' X' ∧ OwnC B X' v' (l ++ [p]) ∧ X.grownBy X' v.ownBlock := by
  obtain ⟨i0, hi0, hz0, hz1, hz2⟩ := info_parts infoCorner
  obtain ⟨v', X', hrun, r1, r2, r3⟩ := run_append_own (P := Tryz.prog) X B 147 ty 146 i0 _ 2 16 Tryz.underlying147 hi0 hz0 hz1 hz2 rfl (by decide) v _ _ h ⟨b, 0, none⟩ 1 1 (flC [p]) rfl (fun j u hj => by
    match j, hj with
    | 0, hj => simp [flC] at hj; subst hj; rw [addr_add]; exact h0
    | 1, hj => simp [flC] at hj; subst hj; rw [addr_add]; exact h1
    | j + 2, hj => simp [flC] at hj) (fun u hu => by simp [flC] at hu; rcases hu with rfl | rfl <;> rfl) (by unfold maxLen; omega) (by omega) hB
  refine ⟨v', X', hrun, ?_, r2⟩
  unfold OwnC
  rw [flC_append, List.length_append]
  exact r1
theorem set2a {X : World} {b : Nat} {a0 a1 : Value} {t : TypeId} (h : X.heap[b]? = some (.cells #[a0, a1] t (0, 0))) (v : Value) : (X.setCell ⟨b, 0, none⟩ v).heap[b]? = some (.cells #[v, a1] t (0, 0)) := by
  have h0 : X.heap[b]? = some (.cells [a0, a1].toArray t (0, 0)) := h
  have := set_blk (o := 0) h0 v
  simpa using this
theorem set2b {X : World} {b : Nat} {a0 a1 : Value} {t : TypeId} (h : X.heap[b]? = some (.cells #[a0, a1] t (0, 0))) (v : Value) : (X.setCell ⟨b, 1, none⟩ v).heap[b]? = some (.cells #[a0, v] t (0, 0)) := by
  have h0 : X.heap[b]? = some (.cells [a0, a1].toArray t (0, 0)) := h
  have := set_blk (o := 1) h0 v
  simpa using this
theorem World.grownBy_weak (w : World) (r : Option Nat) : w.grownBy w r := ⟨rfl, rfl, rfl, Nat.le_refl _, fun _ _ _ => rfl⟩
theorem grown_any {w w1 w' : World} {r : Option Nat} (h1 : Ext w w1) (hg : w1.grownBy w' r) (hr : ∀ g, r = some g → w.heap.size ≤ g) : Ext w w' :=
  ⟨hg.os.trans h1.os, hg.tape.trans h1.tape, hg.output.trans h1.output, Nat.le_trans h1.size hg.size, fun k hk => (hg.block k (Nat.lt_of_lt_of_le hk h1.size) (fun e => by have := hr k e.symm; omega)).trans (h1.block k hk)⟩
theorem ext_bytes (w : World) (e : TypeId) (s : ByteArray) : Ext w (Lib.bytesWorld w e s) := ⟨rfl, rfl, rfl, by rw [Lib.bytesWorld_size]; omega, fun k hk => Lib.bytesWorld_at_old w e s k hk⟩
theorem conv_bytes (s : ByteArray) (w : World) : (convert 9 100 (.string s)).run Tryz.prog w = .ok (.slice (some ⟨w.heap.size, 0, none⟩) s.size (grownCap w s.size 0 5)) (Lib.bytesWorld w 5 s) := Lib.run_convert_string_bytes w _ _ _ s Tryz.underlying9 Tryz.underlying100 Tryz.underlying5

set_option maxRecDepth 100000 in
set_option maxHeartbeats 1000000 in
theorem corners_c (X Y : Int) (s : ByteArray) (w : World) (hs : s.size ≤ 200) :
    Calls Tryz.prog 105 #[.agg #[.int .i64 X, .int .i64 Y, .string s]] w fun e w' => ∃ v, e = .returned v ∧ OwnC w.heap.size w' v (ptsW (X, Y) (dirs s)) ∧ Ext w w' := by
  obtain ⟨w1, hw1⟩ : ∃ w1, w1 = ((w.alloc (.cells #[.int .i64 X, .int .i64 Y, .string s] 97)).alloc (.cells #[.int .i64 X, .int .i64 Y] 146)).alloc (.cells #[.int .i64 X, .int .i64 Y] 146) := ⟨_, rfl⟩
  have hE1 : Ext w w1 := by rw [hw1]; exact (((Ext.refl w).alloc _).alloc _).alloc _
  have B0 := Lib.hid (show w1.heap[w.heap.size]? = some (.cells #[.int .i64 X, .int .i64 Y, .string s] 97 (0, 0)) from by rw [hw1]; exact block_ext (((Ext.refl _).alloc _).alloc _) (heap_alloc_new w _))
  have B1 := Lib.hid (show w1.heap[w.heap.size + 1]? = some (.cells #[.int .i64 X, .int .i64 Y] 146 (0, 0)) from by rw [hw1]; exact block_ext ((Ext.refl _).alloc _) (heap_alloc_at (w.alloc _) _ (by simp)))
  have O1 := Lib.hid (show OwnC (w.heap.size + 2) w1 (.slice (some ⟨w.heap.size + 2, 0, none⟩) 1 1) [(X, Y)] from by rw [hw1]; exact OwnC.new ((w.alloc _).alloc _) _ _ (X, Y) (by simp) (Nat.le_refl _))
  have HZ1 := Lib.hid (show w1.heap.size = w.heap.size + 3 from by rw [hw1]; simp)
  have HE1 := Lib.hid hE1; have HW1 := Lib.hid hw1
  have hcv := conv_bytes s
  obtain ⟨n, hn⟩ : ∃ n, n = s.size := ⟨_, rfl⟩
  have hnl : (dirs s).length = n := by rw [dirs_len, hn]
  have HNL := Lib.hid hnl
  rw [← hn] at hs
  simp only [← hn] at hcv
  have HN := Lib.hid hn
  have hn63 : n ≤ 9223372036854775807 := by omega
  have c2 := cell_of_blk B0.out (o := 2) rfl
  clear hE1 hw1 hn hnl
  go_enter Tryz.func105, Tryz.ntmps105
  go_upto_region 3 with fail
  rw [← HW1.out]
  go_wp2
  obtain ⟨CS, hCS⟩ : ∃ CS, CS = Lib.bytesCells w1 5 s := ⟨_, rfl⟩
  obtain ⟨FRZ, hFRZ⟩ : ∃ F : Nat × Nat, F = ((Lib.bytesCells w1 5 s).size, (Lib.bytesCells w1 5 s).size + 1) := ⟨_, rfl⟩
  have hbn : (Lib.bytesWorld w1 5 s).heap[w1.heap.size]? = some (.cells CS 5 FRZ) := by rw [hCS, hFRZ]; exact Lib.bytesWorld_at_new w1 _ s
  have HCS := Lib.hid (show ∀ j, j < n → CS[j]? = some (.int .u8 ((s.data.toList.getD j 0).toNat : Int)) from fun j hj => by
    have h := Lib.bytesWorld_cell w1 5 s j (by rw [← HN.out]; exact hj)
    simp only [World.cell?, hbn] at h
    exact h)
  have hEb := ext_bytes w1 5 s
  have HBN := Lib.hid hbn
  have HB1 := Lib.hid (block_ext hEb B1.out); have HO1 := Lib.hid (O1.out.ext hEb); have HEB := Lib.hid (HE1.out.trans hEb)
  clear hCS hFRZ hbn hEb c2 hcv B0 B1 O1 HE1 HW1
  have hz1 : w.heap.size + 2 < w1.heap.size := by rw [HZ1.out]; omega
  go_loopw [4, 21] (fun u4 i wr => ∃ k : Nat, k ≤ n ∧ i = .int .i64 k ∧ Hid (wr.heap[w.heap.size + 1]? = some (.cells #[.int .i64 (finW (X, Y) ((dirs s).take k)).1, .int .i64 (finW (X, Y) ((dirs s).take k)).2] 146 (0, 0))) ∧ Hid (OwnC (w.heap.size + 2) wr u4 (ptsW (X, Y) ((dirs s).take k))) ∧ Hid (wr.heap[w1.heap.size]? = some (.cells CS 5 FRZ)) ∧ Hid (Ext w wr)) (fun u4 i wr => n - (intOf i).toNat)
  case atStart => exact ⟨0, Nat.zero_le _, rfl, HB1, HO1, HBN, HEB⟩
  case round =>
    clear HB1 HO1 HBN HEB
    obtain ⟨k, hk, rfl, hb, hO, hB, hE⟩ := hrel
    by_cases hlt : k < n
    · obtain ⟨x, y, hxy⟩ : ∃ x y, (x, y) = finW (X, Y) ((dirs s).take k) := ⟨_, _, rfl⟩
      rw [← hxy] at hb
      dsimp only at hb
      have HXY := Lib.hid hxy
      obtain ⟨bt, hbt⟩ : ∃ bt, s.data.toList[k]? = some bt := get_some (by have := HN.out; simp; omega)
      have hdk : (dirs s)[k]? = some (dirU bt) := by unfold dirs; rw [List.getElem?_map, hbt]; rfl
      obtain ⟨c, hcb⟩ : ∃ c : Int, c = (bt.toNat : Int) := ⟨_, rfl⟩
      have HCB := Lib.hid hcb.symm
      have cb := cell_of_blk hB.out (HCS.out k hlt)
      rw [show s.data.toList.getD k 0 = bt from by rw [List.getD_eq_getElem?_getD, hbt]; rfl, ← hcb] at cb
      obtain ⟨d0, d1⟩ := cells2 hb.out
      have f0 := frozen_of_blk hb.out 0
      have f1 := frozen_of_blk hb.out 1
      have hka : (0 : Int) ≤ (k : Int) := by omega
      have hkb : (k : Int) < (n : Int) := by omega
      obtain ⟨au, capu, hu⟩ := hO.out.shape
      subst hu
      obtain ⟨Ln, hLn⟩ : ∃ Ln, Ln = (ptsW (X, Y) ((dirs s).take k)).length := ⟨_, rfl⟩
      rw [← hLn] at hO ⊢
      clear hxy hcb hbt hLn
      by_cases hc0 : c = 69
      · have HDK := Lib.hid (show (dirs s)[k]? = some 0 from by rw [hdk, dirU_num, HCB.out]; simp [hc0])
        have q0 : (c == 69) = true := by simp [hc0]
        have r0 : decide (c = 69) = true := by simp [hc0]
        have hx' : mvW (x, y) 0 = (wrap64 (x + 1), y) := rfl
        have hb2 : (wr.setCell ⟨w.heap.size + 1, 0, none⟩ (.int .i64 (wrap64 (x + 1)))).heap[w.heap.size + 1]? = some (.cells #[.int .i64 (wrap64 (x + 1)), .int .i64 (y)] 146 (0, 0)) := set2a hb.out _
        have hg2 : wr.grownBy (wr.setCell ⟨w.heap.size + 1, 0, none⟩ (.int .i64 (wrap64 (x + 1)))) (some (w.heap.size + 1)) := grown_set _ _ _ _
        have ho2 := hO.out.grown hg2 (by omega)
        have hE2 : Ext w (wr.setCell ⟨w.heap.size + 1, 0, none⟩ (.int .i64 (wrap64 (x + 1)))) := hE.out.set (by omega) _ _
        have hc2 : (wr.setCell ⟨w.heap.size + 1, 0, none⟩ (.int .i64 (wrap64 (x + 1)))).heap[w1.heap.size]? = some (.cells CS 5 FRZ) := (hg2.block _ (lt_of_blk hB.out) (fun e => by have := Option.some.inj e; omega)).trans hB.out
        obtain ⟨W3, hW3⟩ : ∃ W3, W3 = (wr.setCell ⟨w.heap.size + 1, 0, none⟩ (.int .i64 (wrap64 (x + 1)))).alloc (.cells #[.int .i64 (wrap64 (x + 1)), .int .i64 (y)] 146) := ⟨_, rfl⟩
        have hE3 : Ext (wr.setCell ⟨w.heap.size + 1, 0, none⟩ (.int .i64 (wrap64 (x + 1)))) W3 := by rw [hW3]; exact (Ext.refl _).alloc _
        have hz3 : W3.heap[wr.heap.size]? = some (.cells #[.int .i64 (wrap64 (x + 1)), .int .i64 (y)] 146 (0, 0)) := by rw [hW3]; exact heap_alloc_at _ _ (by simp)
        obtain ⟨v4, X4, hrun, ho4, hg4⟩ := appendC_run (ho2.ext hE3) (by have := lt_of_blk hz3; have := lt_of_blk hB.out; omega) (by rw [ptsW_len, List.length_take]; omega) (wrap64 (x + 1), y) wr.heap.size (cells2 hz3).1 (cells2 hz3).2 147
        have hob := fun g (e : (Value.slice au Ln capu).ownBlock = some g) => own_from (ho2.ext hE3) g e
        have hot := fun g (e : (Value.slice au Ln capu).ownBlock = some g) => own_blk' (ho2.ext hE3) e
        have HO4 := Lib.hid (show OwnC (w.heap.size + 2) X4 v4 (ptsW (X, Y) ((dirs s).take (k + 1))) from by rw [take_snoc HDK.out, ptsW_snoc, ← HXY.out, hx']; exact ho4)
        have HB4 := Lib.hid (show X4.heap[w.heap.size + 1]? = some (.cells #[.int .i64 (finW (X, Y) ((dirs s).take (k + 1))).1, .int .i64 (finW (X, Y) ((dirs s).take (k + 1))).2] 146 (0, 0)) from by
          rw [take_snoc HDK.out, finW_snoc, ← HXY.out, hx']
          exact (hg4.block _ (lt_of_blk (block_ext hE3 hb2)) (fun e => by have := hob _ e.symm; omega)).trans (block_ext hE3 hb2))
        have HC4 := Lib.hid (show X4.heap[w1.heap.size]? = some (.cells CS 5 FRZ) from (hg4.block _ (lt_of_blk (block_ext hE3 hc2)) (fun e => by
          obtain ⟨cs, h5⟩ := hot _ e.symm
          rw [block_ext hE3 hc2] at h5
          cases h5)).trans (block_ext hE3 hc2))
        have HE4 := Lib.hid (show Ext w X4 from grown_any (hE2.trans hE3) hg4 (fun g e => by have := hob g e; omega))
        have HRUN := Lib.hid hrun
        rw [hW3] at hrun
        clear hx' hb2 hg2 ho2 hE2 hc2 hE3 hz3 ho4 hg4 hob hot hW3
        go_wp2_with (first | (refine wpList_append_run rfl _ _ 147 rfl rfl rfl hrun ?_) | fail)
        go_roundw
        case rel => exact ⟨k + 1, by omega, by go_num, HB4, HO4, HC4, HE4⟩
        case measure => simp [intOf]; omega
      · skip
        by_cases hc1 : c = 78
        · have HDK := Lib.hid (show (dirs s)[k]? = some 1 from by rw [hdk, dirU_num, HCB.out]; simp [hc0, hc1])
          have q0 : (c == 69) = false := by simp [hc0]
          have r0 : decide (c = 69) = false := by simp [hc0]
          have q1 : (c == 78) = true := by simp [hc1]
          have r1 : decide (c = 78) = true := by simp [hc1]
          have hx' : mvW (x, y) 1 = (x, wrap64 (y + 1)) := rfl
          have hb2 : (wr.setCell ⟨w.heap.size + 1, 1, none⟩ (.int .i64 (wrap64 (y + 1)))).heap[w.heap.size + 1]? = some (.cells #[.int .i64 (x), .int .i64 (wrap64 (y + 1))] 146 (0, 0)) := set2b hb.out _
          have hg2 : wr.grownBy (wr.setCell ⟨w.heap.size + 1, 1, none⟩ (.int .i64 (wrap64 (y + 1)))) (some (w.heap.size + 1)) := grown_set _ _ _ _
          have ho2 := hO.out.grown hg2 (by omega)
          have hE2 : Ext w (wr.setCell ⟨w.heap.size + 1, 1, none⟩ (.int .i64 (wrap64 (y + 1)))) := hE.out.set (by omega) _ _
          have hc2 : (wr.setCell ⟨w.heap.size + 1, 1, none⟩ (.int .i64 (wrap64 (y + 1)))).heap[w1.heap.size]? = some (.cells CS 5 FRZ) := (hg2.block _ (lt_of_blk hB.out) (fun e => by have := Option.some.inj e; omega)).trans hB.out
          obtain ⟨W3, hW3⟩ : ∃ W3, W3 = (wr.setCell ⟨w.heap.size + 1, 1, none⟩ (.int .i64 (wrap64 (y + 1)))).alloc (.cells #[.int .i64 (x), .int .i64 (wrap64 (y + 1))] 146) := ⟨_, rfl⟩
          have hE3 : Ext (wr.setCell ⟨w.heap.size + 1, 1, none⟩ (.int .i64 (wrap64 (y + 1)))) W3 := by rw [hW3]; exact (Ext.refl _).alloc _
          have hz3 : W3.heap[wr.heap.size]? = some (.cells #[.int .i64 (x), .int .i64 (wrap64 (y + 1))] 146 (0, 0)) := by rw [hW3]; exact heap_alloc_at _ _ (by simp)
          obtain ⟨v4, X4, hrun, ho4, hg4⟩ := appendC_run (ho2.ext hE3) (by have := lt_of_blk hz3; have := lt_of_blk hB.out; omega) (by rw [ptsW_len, List.length_take]; omega) (x, wrap64 (y + 1)) wr.heap.size (cells2 hz3).1 (cells2 hz3).2 147
          have hob := fun g (e : (Value.slice au Ln capu).ownBlock = some g) => own_from (ho2.ext hE3) g e
          have hot := fun g (e : (Value.slice au Ln capu).ownBlock = some g) => own_blk' (ho2.ext hE3) e
          have HO4 := Lib.hid (show OwnC (w.heap.size + 2) X4 v4 (ptsW (X, Y) ((dirs s).take (k + 1))) from by rw [take_snoc HDK.out, ptsW_snoc, ← HXY.out, hx']; exact ho4)
          have HB4 := Lib.hid (show X4.heap[w.heap.size + 1]? = some (.cells #[.int .i64 (finW (X, Y) ((dirs s).take (k + 1))).1, .int .i64 (finW (X, Y) ((dirs s).take (k + 1))).2] 146 (0, 0)) from by
            rw [take_snoc HDK.out, finW_snoc, ← HXY.out, hx']
            exact (hg4.block _ (lt_of_blk (block_ext hE3 hb2)) (fun e => by have := hob _ e.symm; omega)).trans (block_ext hE3 hb2))
          have HC4 := Lib.hid (show X4.heap[w1.heap.size]? = some (.cells CS 5 FRZ) from (hg4.block _ (lt_of_blk (block_ext hE3 hc2)) (fun e => by
            obtain ⟨cs, h5⟩ := hot _ e.symm
            rw [block_ext hE3 hc2] at h5
            cases h5)).trans (block_ext hE3 hc2))
          have HE4 := Lib.hid (show Ext w X4 from grown_any (hE2.trans hE3) hg4 (fun g e => by have := hob g e; omega))
          have HRUN := Lib.hid hrun
          rw [hW3] at hrun
          clear hx' hb2 hg2 ho2 hE2 hc2 hE3 hz3 ho4 hg4 hob hot hW3
          go_wp2_with (first | (refine wpList_append_run rfl _ _ 147 rfl rfl rfl hrun ?_) | fail)
          go_roundw
          case rel => exact ⟨k + 1, by omega, by go_num, HB4, HO4, HC4, HE4⟩
          case measure => simp [intOf]; omega
        · skip
          by_cases hc2 : c = 87
          · have HDK := Lib.hid (show (dirs s)[k]? = some 2 from by rw [hdk, dirU_num, HCB.out]; simp [hc0, hc1, hc2])
            have q0 : (c == 69) = false := by simp [hc0]
            have r0 : decide (c = 69) = false := by simp [hc0]
            have q1 : (c == 78) = false := by simp [hc1]
            have r1 : decide (c = 78) = false := by simp [hc1]
            have q2 : (c == 87) = true := by simp [hc2]
            have r2 : decide (c = 87) = true := by simp [hc2]
            have hx' : mvW (x, y) 2 = (wrap64 (x - 1), y) := rfl
            have hb2 : (wr.setCell ⟨w.heap.size + 1, 0, none⟩ (.int .i64 (wrap64 (x - 1)))).heap[w.heap.size + 1]? = some (.cells #[.int .i64 (wrap64 (x - 1)), .int .i64 (y)] 146 (0, 0)) := set2a hb.out _
            have hg2 : wr.grownBy (wr.setCell ⟨w.heap.size + 1, 0, none⟩ (.int .i64 (wrap64 (x - 1)))) (some (w.heap.size + 1)) := grown_set _ _ _ _
            have ho2 := hO.out.grown hg2 (by omega)
            have hE2 : Ext w (wr.setCell ⟨w.heap.size + 1, 0, none⟩ (.int .i64 (wrap64 (x - 1)))) := hE.out.set (by omega) _ _
            have hc2 : (wr.setCell ⟨w.heap.size + 1, 0, none⟩ (.int .i64 (wrap64 (x - 1)))).heap[w1.heap.size]? = some (.cells CS 5 FRZ) := (hg2.block _ (lt_of_blk hB.out) (fun e => by have := Option.some.inj e; omega)).trans hB.out
            obtain ⟨W3, hW3⟩ : ∃ W3, W3 = (wr.setCell ⟨w.heap.size + 1, 0, none⟩ (.int .i64 (wrap64 (x - 1)))).alloc (.cells #[.int .i64 (wrap64 (x - 1)), .int .i64 (y)] 146) := ⟨_, rfl⟩
            have hE3 : Ext (wr.setCell ⟨w.heap.size + 1, 0, none⟩ (.int .i64 (wrap64 (x - 1)))) W3 := by rw [hW3]; exact (Ext.refl _).alloc _
            have hz3 : W3.heap[wr.heap.size]? = some (.cells #[.int .i64 (wrap64 (x - 1)), .int .i64 (y)] 146 (0, 0)) := by rw [hW3]; exact heap_alloc_at _ _ (by simp)
            obtain ⟨v4, X4, hrun, ho4, hg4⟩ := appendC_run (ho2.ext hE3) (by have := lt_of_blk hz3; have := lt_of_blk hB.out; omega) (by rw [ptsW_len, List.length_take]; omega) (wrap64 (x - 1), y) wr.heap.size (cells2 hz3).1 (cells2 hz3).2 147
            have hob := fun g (e : (Value.slice au Ln capu).ownBlock = some g) => own_from (ho2.ext hE3) g e
            have hot := fun g (e : (Value.slice au Ln capu).ownBlock = some g) => own_blk' (ho2.ext hE3) e
            have HO4 := Lib.hid (show OwnC (w.heap.size + 2) X4 v4 (ptsW (X, Y) ((dirs s).take (k + 1))) from by rw [take_snoc HDK.out, ptsW_snoc, ← HXY.out, hx']; exact ho4)
            have HB4 := Lib.hid (show X4.heap[w.heap.size + 1]? = some (.cells #[.int .i64 (finW (X, Y) ((dirs s).take (k + 1))).1, .int .i64 (finW (X, Y) ((dirs s).take (k + 1))).2] 146 (0, 0)) from by
              rw [take_snoc HDK.out, finW_snoc, ← HXY.out, hx']
              exact (hg4.block _ (lt_of_blk (block_ext hE3 hb2)) (fun e => by have := hob _ e.symm; omega)).trans (block_ext hE3 hb2))
            have HC4 := Lib.hid (show X4.heap[w1.heap.size]? = some (.cells CS 5 FRZ) from (hg4.block _ (lt_of_blk (block_ext hE3 hc2)) (fun e => by
              obtain ⟨cs, h5⟩ := hot _ e.symm
              rw [block_ext hE3 hc2] at h5
              cases h5)).trans (block_ext hE3 hc2))
            have HE4 := Lib.hid (show Ext w X4 from grown_any (hE2.trans hE3) hg4 (fun g e => by have := hob g e; omega))
            have HRUN := Lib.hid hrun
            rw [hW3] at hrun
            clear hx' hb2 hg2 ho2 hE2 hc2 hE3 hz3 ho4 hg4 hob hot hW3
            go_wp2_with (first | (refine wpList_append_run rfl _ _ 147 rfl rfl rfl hrun ?_) | fail)
            go_roundw
            case rel => exact ⟨k + 1, by omega, by go_num, HB4, HO4, HC4, HE4⟩
            case measure => simp [intOf]; omega
          · skip
            by_cases hc3 : c = 83
            · have HDK := Lib.hid (show (dirs s)[k]? = some 3 from by rw [hdk, dirU_num, HCB.out]; simp [hc0, hc1, hc2, hc3])
              have q0 : (c == 69) = false := by simp [hc0]
              have r0 : decide (c = 69) = false := by simp [hc0]
              have q1 : (c == 78) = false := by simp [hc1]
              have r1 : decide (c = 78) = false := by simp [hc1]
              have q2 : (c == 87) = false := by simp [hc2]
              have r2 : decide (c = 87) = false := by simp [hc2]
              have q3 : (c == 83) = true := by simp [hc3]
              have r3 : decide (c = 83) = true := by simp [hc3]
              have hx' : mvW (x, y) 3 = (x, wrap64 (y - 1)) := rfl
              have hb2 : (wr.setCell ⟨w.heap.size + 1, 1, none⟩ (.int .i64 (wrap64 (y - 1)))).heap[w.heap.size + 1]? = some (.cells #[.int .i64 (x), .int .i64 (wrap64 (y - 1))] 146 (0, 0)) := set2b hb.out _
              have hg2 : wr.grownBy (wr.setCell ⟨w.heap.size + 1, 1, none⟩ (.int .i64 (wrap64 (y - 1)))) (some (w.heap.size + 1)) := grown_set _ _ _ _
              have ho2 := hO.out.grown hg2 (by omega)
              have hE2 : Ext w (wr.setCell ⟨w.heap.size + 1, 1, none⟩ (.int .i64 (wrap64 (y - 1)))) := hE.out.set (by omega) _ _
              have hc2 : (wr.setCell ⟨w.heap.size + 1, 1, none⟩ (.int .i64 (wrap64 (y - 1)))).heap[w1.heap.size]? = some (.cells CS 5 FRZ) := (hg2.block _ (lt_of_blk hB.out) (fun e => by have := Option.some.inj e; omega)).trans hB.out
              obtain ⟨W3, hW3⟩ : ∃ W3, W3 = (wr.setCell ⟨w.heap.size + 1, 1, none⟩ (.int .i64 (wrap64 (y - 1)))).alloc (.cells #[.int .i64 (x), .int .i64 (wrap64 (y - 1))] 146) := ⟨_, rfl⟩
              have hE3 : Ext (wr.setCell ⟨w.heap.size + 1, 1, none⟩ (.int .i64 (wrap64 (y - 1)))) W3 := by rw [hW3]; exact (Ext.refl _).alloc _
              have hz3 : W3.heap[wr.heap.size]? = some (.cells #[.int .i64 (x), .int .i64 (wrap64 (y - 1))] 146 (0, 0)) := by rw [hW3]; exact heap_alloc_at _ _ (by simp)
              obtain ⟨v4, X4, hrun, ho4, hg4⟩ := appendC_run (ho2.ext hE3) (by have := lt_of_blk hz3; have := lt_of_blk hB.out; omega) (by rw [ptsW_len, List.length_take]; omega) (x, wrap64 (y - 1)) wr.heap.size (cells2 hz3).1 (cells2 hz3).2 147
              have hob := fun g (e : (Value.slice au Ln capu).ownBlock = some g) => own_from (ho2.ext hE3) g e
              have hot := fun g (e : (Value.slice au Ln capu).ownBlock = some g) => own_blk' (ho2.ext hE3) e
              have HO4 := Lib.hid (show OwnC (w.heap.size + 2) X4 v4 (ptsW (X, Y) ((dirs s).take (k + 1))) from by rw [take_snoc HDK.out, ptsW_snoc, ← HXY.out, hx']; exact ho4)
              have HB4 := Lib.hid (show X4.heap[w.heap.size + 1]? = some (.cells #[.int .i64 (finW (X, Y) ((dirs s).take (k + 1))).1, .int .i64 (finW (X, Y) ((dirs s).take (k + 1))).2] 146 (0, 0)) from by
                rw [take_snoc HDK.out, finW_snoc, ← HXY.out, hx']
                exact (hg4.block _ (lt_of_blk (block_ext hE3 hb2)) (fun e => by have := hob _ e.symm; omega)).trans (block_ext hE3 hb2))
              have HC4 := Lib.hid (show X4.heap[w1.heap.size]? = some (.cells CS 5 FRZ) from (hg4.block _ (lt_of_blk (block_ext hE3 hc2)) (fun e => by
                obtain ⟨cs, h5⟩ := hot _ e.symm
                rw [block_ext hE3 hc2] at h5
                cases h5)).trans (block_ext hE3 hc2))
              have HE4 := Lib.hid (show Ext w X4 from grown_any (hE2.trans hE3) hg4 (fun g e => by have := hob g e; omega))
              have HRUN := Lib.hid hrun
              rw [hW3] at hrun
              clear hx' hb2 hg2 ho2 hE2 hc2 hE3 hz3 ho4 hg4 hob hot hW3
              go_wp2_with (first | (refine wpList_append_run rfl _ _ 147 rfl rfl rfl hrun ?_) | fail)
              go_roundw
              case rel => exact ⟨k + 1, by omega, by go_num, HB4, HO4, HC4, HE4⟩
              case measure => simp [intOf]; omega
            · skip
              have HDK := Lib.hid (show (dirs s)[k]? = some 4 from by rw [hdk, dirU_num, HCB.out]; simp [hc0, hc1, hc2, hc3])
              have q0 : (c == 69) = false := by simp [hc0]
              have r0 : decide (c = 69) = false := by simp [hc0]
              have q1 : (c == 78) = false := by simp [hc1]
              have r1 : decide (c = 78) = false := by simp [hc1]
              have q2 : (c == 87) = false := by simp [hc2]
              have r2 : decide (c = 87) = false := by simp [hc2]
              have q3 : (c == 83) = false := by simp [hc3]
              have r3 : decide (c = 83) = false := by simp [hc3]
              have hx' : mvW (x, y) 4 = (x, y) := rfl
              have hb2 : (wr).heap[w.heap.size + 1]? = some (.cells #[.int .i64 (x), .int .i64 (y)] 146 (0, 0)) := hb.out
              have hg2 : wr.grownBy (wr) (some (w.heap.size + 1)) := World.grownBy_weak wr _
              have ho2 := hO.out.grown hg2 (by omega)
              have hE2 : Ext w (wr) := hE.out
              have hc2 : (wr).heap[w1.heap.size]? = some (.cells CS 5 FRZ) := (hg2.block _ (lt_of_blk hB.out) (fun e => by have := Option.some.inj e; omega)).trans hB.out
              obtain ⟨W3, hW3⟩ : ∃ W3, W3 = (wr).alloc (.cells #[.int .i64 (x), .int .i64 (y)] 146) := ⟨_, rfl⟩
              have hE3 : Ext (wr) W3 := by rw [hW3]; exact (Ext.refl _).alloc _
              have hz3 : W3.heap[wr.heap.size]? = some (.cells #[.int .i64 (x), .int .i64 (y)] 146 (0, 0)) := by rw [hW3]; exact heap_alloc_at _ _ (by simp)
              obtain ⟨v4, X4, hrun, ho4, hg4⟩ := appendC_run (ho2.ext hE3) (by have := lt_of_blk hz3; have := lt_of_blk hB.out; omega) (by rw [ptsW_len, List.length_take]; omega) (x, y) wr.heap.size (cells2 hz3).1 (cells2 hz3).2 147
              have hob := fun g (e : (Value.slice au Ln capu).ownBlock = some g) => own_from (ho2.ext hE3) g e
              have hot := fun g (e : (Value.slice au Ln capu).ownBlock = some g) => own_blk' (ho2.ext hE3) e
              have HO4 := Lib.hid (show OwnC (w.heap.size + 2) X4 v4 (ptsW (X, Y) ((dirs s).take (k + 1))) from by rw [take_snoc HDK.out, ptsW_snoc, ← HXY.out, hx']; exact ho4)
              have HB4 := Lib.hid (show X4.heap[w.heap.size + 1]? = some (.cells #[.int .i64 (finW (X, Y) ((dirs s).take (k + 1))).1, .int .i64 (finW (X, Y) ((dirs s).take (k + 1))).2] 146 (0, 0)) from by
                rw [take_snoc HDK.out, finW_snoc, ← HXY.out, hx']
                exact (hg4.block _ (lt_of_blk (block_ext hE3 hb2)) (fun e => by have := hob _ e.symm; omega)).trans (block_ext hE3 hb2))
              have HC4 := Lib.hid (show X4.heap[w1.heap.size]? = some (.cells CS 5 FRZ) from (hg4.block _ (lt_of_blk (block_ext hE3 hc2)) (fun e => by
                obtain ⟨cs, h5⟩ := hot _ e.symm
                rw [block_ext hE3 hc2] at h5
                cases h5)).trans (block_ext hE3 hc2))
              have HE4 := Lib.hid (show Ext w X4 from grown_any (hE2.trans hE3) hg4 (fun g e => by have := hob g e; omega))
              have HRUN := Lib.hid hrun
              rw [hW3] at hrun
              obtain ⟨d0, d1⟩ := cells2 hb2
              clear hx' hb2 hg2 ho2 hE2 hc2 hE3 hz3 ho4 hg4 hob hot hW3
              go_wp2_with (first | (refine wpList_append_run rfl _ _ 147 rfl rfl rfl hrun ?_) | fail)
              go_roundw
              case rel => exact ⟨k + 1, by omega, by go_num, HB4, HO4, HC4, HE4⟩
              case measure => simp [intOf]; omega
    · obtain rfl : k = n := by omega
      have hfin : (dirs s).take k = dirs s := by rw [← HNL.out]; exact List.take_length
      have HO := Lib.hid (show OwnC w.heap.size wr u4 (ptsW (X, Y) (dirs s)) from by rw [← hfin]; exact hO.out.weak (by omega))
      clear hfin
      go_wp2
      go_ret
      exact ⟨u4, rfl, HO.out, hE.out⟩
end Go.Proofs.YtppjnpempgpkaaaGreat
