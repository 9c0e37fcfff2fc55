/- A yard in memory; isSound, by its contract. -/
import Derived.Test.YtcgheakadfjofaaB4
import Derived.Test.YtcgheakadfjofaaZ3
import Derived.Test.YtcgheakadfjofaaA5
import Derived.Deep.LoopGhost
namespace Go.Proofs.Ytcgheakadfjofaa
open Go.RowKit
set_option linter.unusedVariables false
set_option linter.unusedSimpArgs false
/-- The cells of a yard. -/
def ycL (vt vb : Value) (r : Rl) (ps : List Int) : List Value :=
  vt :: vb :: .int .i64 r.lo :: .int .i64 r.hi :: .int .i64 r.st :: .int .i64 r.tr :: .int .i64 r.off :: .int .i64 r.dv :: .int .i64 r.tn :: ps.map (Value.int .i64)
/-- A yard lies in block b. -/
structure YardAt (W : World) (b : Nat) (vt vb : Value) (th bd : List Int) (r : Rl) (ps : List Int) : Prop where
  blk : W.heap[b]? = some (.cells (ycL vt vb r ps).toArray 93 (0, 0))
  th : Reads W vt th
  bd : Reads W vb bd
  len : ps.length = 61
theorem cell_of_blk {W : World} {b : Nat} {cs : Array Value} {t : TypeId} {fr : Nat × Nat} (h : W.heap[b]? = some (.cells cs t fr)) {o : Nat} {v : Value} (hv : cs[o]? = some v) : W.cell? ⟨b, o, none⟩ = some v := by
  simp [World.cell?, h, hv]
theorem frozen_of_blk {W : World} {b : Nat} {cs : Array Value} {t : TypeId} (h : W.heap[b]? = some (.cells cs t (0, 0))) (o : Nat) : W.frozen? ⟨b, o, none⟩ = false := by
  simp [World.frozen?, h]
theorem YardAt.cells {W : World} {b : Nat} {vt vb : Value} {th bd : List Int} {r : Rl} {ps : List Int} (h : YardAt W b vt vb th bd r ps) :
    W.cell? ⟨b, 0, none⟩ = some vt ∧ W.cell? ⟨b, 1, none⟩ = some vb ∧ W.cell? ⟨b, 2, none⟩ = some (.int .i64 r.lo) ∧ W.cell? ⟨b, 3, none⟩ = some (.int .i64 r.hi) ∧ W.cell? ⟨b, 4, none⟩ = some (.int .i64 r.st) ∧ W.cell? ⟨b, 5, none⟩ = some (.int .i64 r.tr) ∧ W.cell? ⟨b, 6, none⟩ = some (.int .i64 r.off) ∧ W.cell? ⟨b, 7, none⟩ = some (.int .i64 r.dv) ∧ W.cell? ⟨b, 8, none⟩ = some (.int .i64 r.tn) :=
  ⟨cell_of_blk h.blk rfl, cell_of_blk h.blk rfl, cell_of_blk h.blk rfl, cell_of_blk h.blk rfl, cell_of_blk h.blk rfl, cell_of_blk h.blk rfl, cell_of_blk h.blk rfl, cell_of_blk h.blk rfl, cell_of_blk h.blk rfl⟩
theorem block_ext {w w' : World} (hb : Ext w w') {b : Nat} {o : Obj} (h : w.heap[b]? = some o) : w'.heap[b]? = some o := by
  have hlt := (Array.getElem?_eq_some_iff.1 h).1
  rw [hb.block b hlt]; exact h
theorem YardAt.ext {W W' : World} {b : Nat} {vt vb : Value} {th bd : List Int} {r : Rl} {ps : List Int} (h : YardAt W b vt vb th bd r ps) (hb : Ext W W') : YardAt W' b vt vb th bd r ps :=
  ⟨block_ext hb h.blk, h.th.ext hb, h.bd.ext hb, h.len⟩
theorem YardAt.price {W : World} {b : Nat} {vt vb : Value} {th bd : List Int} {r : Rl} {ps : List Int} (h : YardAt W b vt vb th bd r ps) {k : Nat} (hk : k < 61) : W.cell? ⟨b, 9 + k, none⟩ = some (.int .i64 (ps.getD k 0)) := by
  refine cell_of_blk h.blk ?_
  have := h.len
  rw [show 9 + k = k + 9 from by omega]
  simp [ycL, List.getD]
  rw [show ps[k]? = some ps[k] from by simp]
  simp
theorem up_later : ∀ (l : List Int) (k m : Nat) (x y : Int), up l = true → k ≤ m → l[k]? = some x → l[m]? = some y → x ≤ y
  | [], k, m, x, y, _, _, h, _ => by simp at h
  | [a], k, m, x, y, _, _, h, h' => by
    cases k with
    | zero => cases m with
      | zero => simp at h h'; omega
      | succ m => simp at h'
    | succ k => simp at h
  | a :: b :: l, k, m, x, y, hu, hkm, h, h' => by
    simp only [up, Bool.and_eq_true, decide_eq_true_eq] at hu
    cases k with
    | zero =>
      cases m with
      | zero => simp at h h'; omega
      | succ m =>
        have := up_later (b :: l) 0 m b y hu.2 (by omega) rfl (by simpa using h')
        simp at h; omega
    | succ k =>
      cases m with
      | zero => omega
      | succ m => exact up_later (b :: l) k m x y hu.2 (by omega) (by simpa using h) (by simpa using h')
/-- Some bad foot of a log. -/
def badB (bd : List Int) (i j : Int) : Bool := bd.any fun b => decide (i ≤ b) && decide (b < j)
theorem badB_snoc {bd : List Int} {k : Nat} {x : Int} (h : bd[k]? = some x) (i j : Int) : badB (bd.take (k + 1)) i j = (badB (bd.take k) i j || (decide (i ≤ x) && decide (x < j))) := by
  unfold badB; rw [take_snoc h]; simp
theorem badB_stop {bd : List Int} {k : Nat} {x : Int} (hu : up bd = true) (h : bd[k]? = some x) (i j : Int) (hx : j ≤ x) : badB bd i j = badB (bd.take k) i j := by
  unfold badB
  conv => lhs; rw [← List.take_append_drop k bd, List.any_append]
  have : (bd.drop k).any (fun b => decide (i ≤ b) && decide (b < j)) = false := by
    rw [List.any_eq_false]
    intro y hy
    obtain ⟨m, hm⟩ := List.getElem?_of_mem hy
    rw [List.getElem?_drop] at hm
    have := up_later bd k (k + m) x y hu (by omega) h hm
    simp; omega
  rw [this, Bool.or_false]
set_option maxHeartbeats 1000000 in
theorem sound77 (b : Nat) (vt vb : Value) (th bd : List Int) (r : Rl) (ps : List Int) (i j : Int) (w : World) (hy : YardAt w b vt vb th bd r ps) (hu : up bd = true) :
    Calls Try.prog 77 #[.pointer (some ⟨b, 0, none⟩), .agg #[.int .i64 i, .int .i64 j]] w fun e w' => e = .returned (.bool (!badB bd i j)) ∧ Ext w w' := by
  obtain ⟨hl, a, cap, rfl⟩ := hy.bd.shape
  have E0 := Lib.hid ((Ext.refl w).alloc (.cells #[.int .i64 i, .int .i64 j] 29))
  have hb0 := lt_of_cell hy.cells.1
  have HY := Lib.hid (hy.ext E0.out)
  have HU := Lib.hid hu
  have hl2 : bd.length ≤ 9223372036854775807 := by omega
  obtain ⟨-, c1, -⟩ := HY.out.cells
  clear hy hu
  go_enter Try.func77, Try.ntmps77
  go_wp2
  go_step3
  go_wp2
  go_step3
  go_wp2
  go_loop [13] (fun q => ∃ k : Nat, k ≤ bd.length ∧ q = .int .i64 (k : Int) ∧ Hid (badB (bd.take k) i j = false)) (fun q => bd.length - (intOf q).toNat)
  case atStart => exact ⟨0, Nat.zero_le _, rfl, rfl⟩
  case round =>
    obtain ⟨k, hk, rfl, hI⟩ := hrel
    by_cases hlt : k < bd.length
    · obtain ⟨b1, off, x, rfl, hx, hck⟩ := HY.out.bd.at hlt
      have HX := Lib.hid hx; clear hx
      have hka : (0 : Int) ≤ (k : Int) := by omega
      have hkb : (k : Int) < (bd.length : Int) := by omega
      by_cases hj : j ≤ x
      · go_wp2
        try rw [Exit.noGoto_ret]
        go_ret
        refine ⟨ret_bool ?_, E0.out⟩
        rw [badB_stop HU.out HX.out i j hj, hI.out]; rfl
      · by_cases hi : i ≤ x
        · go_wp2
          try rw [Exit.noGoto_ret]
          go_ret
          refine ⟨ret_bool ?_, E0.out⟩
          have : badB bd i j = true := List.any_eq_true.2 ⟨x, List.mem_of_getElem? HX.out, by simp; omega⟩
          rw [this]; rfl
        · go_wp2
          go_round
          case rel => exact ⟨k + 1, by omega, by go_num, show _ = false by rw [badB_snoc HX.out, hI.out]; simp; omega⟩
          case measure => simp [intOf]; omega
    · go_wp2
      try rw [Exit.noGoto_ret]
      go_ret
      obtain rfl : k = bd.length := by omega
      refine ⟨ret_bool ?_, E0.out⟩
      have := hI.out
      rw [List.take_of_length_le (Nat.le_refl _)] at this
      rw [this]; rfl
end Go.Proofs.Ytcgheakadfjofaa
