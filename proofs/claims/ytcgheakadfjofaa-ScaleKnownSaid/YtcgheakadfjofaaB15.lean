/- The prices of a yard, as they are stored; and cleared. -/
import Derived.Test.YtcgheakadfjofaaB11
import Derived.Test.YtcgheakadfjofaaZ3
import Derived.Lib.SliceRun
import Derived.Lib.BufferOwn
namespace Go.Proofs.Ytcgheakadfjofaa
open Go.RowKit Go.Shelf
set_option linter.unusedVariables false
set_option linter.unusedSimpArgs false
theorem grown_set (W : World) (b o : Nat) (v : Value) : W.grownBy (W.setCell ⟨b, o, none⟩ v) (some b) := by
  refine ⟨rfl, rfl, rfl, by simp [World.setCell], fun k _ hk => ?_⟩
  show (W.heap.modify b _)[k]? = _
  rw [Array.getElem?_modify, if_neg (fun e => hk (by rw [e]))]
theorem grown_sets (b : Nat) : ∀ (vs : List Value) (o : Nat) (w : World), w.grownBy (w.setCells b o vs) (some b)
  | [], o, w => World.grownBy.refl _ _
  | v :: r, o, w => Lib.grownBy_trans (grown_set w b o v) (grown_sets b r (o + 1) _)
theorem set_blk {W : World} {b o : Nat} {cs : List Value} {t : TypeId} {fr : Nat × Nat} (h : W.heap[b]? = some (.cells cs.toArray t fr)) (v : Value) : (W.setCell ⟨b, o, none⟩ v).heap[b]? = some (.cells (cs.set o v).toArray t fr) := by
  show (W.heap.modify b _)[b]? = _
  rw [Array.getElem?_modify, if_pos rfl, h]
  simp
def writeAt : List Value → Nat → List Value → List Value
  | cs, _, [] => cs
  | cs, o, v :: r => writeAt (cs.set o v) (o + 1) r
theorem sets_blk {b : Nat} {t : TypeId} {fr : Nat × Nat} : ∀ (vs : List Value) (o : Nat) (W : World) (cs : List Value), W.heap[b]? = some (.cells cs.toArray t fr) → (W.setCells b o vs).heap[b]? = some (.cells (writeAt cs o vs).toArray t fr)
  | [], o, W, cs, h => h
  | v :: r, o, W, cs, h => sets_blk r (o + 1) _ _ (set_blk h v)
theorem ycL_set (vt vb : Value) (r : Rl) (ps : List Int) (k : Nat) (x : Int) : (ycL vt vb r ps).set (9 + k) (.int .i64 x) = ycL vt vb r (ps.set k x) := by
  rw [show 9 + k = k + 9 from by omega]
  simp [ycL, List.map_set]
theorem ycL_write (vt vb : Value) (r : Rl) : ∀ (vs : List Int) (k : Nat) (ps : List Int), k + vs.length = ps.length → writeAt (ycL vt vb r ps) (9 + k) (vs.map (Value.int .i64)) = ycL vt vb r (ps.take k ++ vs)
  | [], k, ps, h => by
    show ycL vt vb r ps = _
    rw [List.take_of_length_le (by simp at h; omega), List.append_nil]
  | v :: vs, k, ps, h => by
    simp only [List.map_cons, writeAt]
    rw [ycL_set, show 9 + k + 1 = 9 + (k + 1) from rfl, ycL_write vt vb r vs (k + 1) (ps.set k v) (by simp at h ⊢; omega)]
    congr 1
    have hk : k < ps.length := by simp at h; omega
    rw [List.take_set, List.take_add_one]
    simp only [List.getElem?_eq_getElem hk, Option.toList_some]
    rw [List.set_append_right _ _ (by simp; omega)]
    simp [Nat.min_eq_left (Nat.le_of_lt hk)]
theorem other_blk {W W' : World} {b g : Nat} (hg : W.grownBy W' (some b)) (hne : g ≠ b) (hlt : g < W.heap.size) : W'.heap[g]? = W.heap[g]? := hg.block g hlt (fun e => hne (by cases e; rfl))
theorem cell_grown {W W' : World} {b g o : Nat} {v : Value} (hg : W.grownBy W' (some b)) (hne : g ≠ b) (h : W.cell? ⟨g, o, none⟩ = some v) : W'.cell? ⟨g, o, none⟩ = some v := by
  have := other_blk hg hne (lt_of_cell h)
  rw [← h]
  simp only [World.cell?, this]
theorem grown_new {w w1 w' : World} {bt : Nat} (h1 : Ext w w1) (hg : w1.grownBy w' (some bt)) (hbt : w.heap.size ≤ bt) : Ext w w' :=
  ⟨hg.os.trans h1.os, hg.tape.trans h1.tape, hg.output.trans h1.output, Nat.le_trans h1.size hg.size, fun k hk => (hg.block k (Nat.lt_of_lt_of_le hk h1.size) (fun e => by have := Option.some.inj e; omega)).trans (h1.block k hk)⟩
/-- A yard in a block of its own: its stem was there before. -/
structure YardOwn (w₀ W : World) (b : Nat) (vt vb : Value) (th bd : List Int) (r : Rl) (ps : List Int) : Prop where
  at_ : YardAt W b vt vb th bd r ps
  th0 : Reads w₀ vt th
  bd0 : Reads w₀ vb bd
  new : w₀.heap.size ≤ b
  ext0 : Ext w₀ W
theorem YardOwn.ext {w₀ W W' : World} {b : Nat} {vt vb : Value} {th bd : List Int} {r : Rl} {ps : List Int} (h : YardOwn w₀ W b vt vb th bd r ps) (hb : Ext W W') : YardOwn w₀ W' b vt vb th bd r ps :=
  ⟨h.at_.ext hb, h.th0, h.bd0, h.new, h.ext0.trans hb⟩
theorem YardOwn.stored {w₀ W : World} {b : Nat} {vt vb : Value} {th bd : List Int} {r : Rl} {ps : List Int} (h : YardOwn w₀ W b vt vb th bd r ps) (k : Nat) (x : Int) : YardOwn w₀ (W.setCell ⟨b, 9 + k, none⟩ (.int .i64 x)) b vt vb th bd r (ps.set k x) := by
  have hE := grown_new h.ext0 (grown_set W b (9 + k) (.int .i64 x)) h.new
  refine ⟨⟨?_, h.th0.ext hE, h.bd0.ext hE, by rw [List.length_set]; exact h.at_.len⟩, h.th0, h.bd0, h.new, hE⟩
  rw [set_blk h.at_.blk, ycL_set]
theorem YardOwn.cleared {w₀ w : World} {b : Nat} {vt vb : Value} {th bd : List Int} {r : Rl} {ps : List Int} (h : YardOwn w₀ w b vt vb th bd r ps) : ∃ W1, (Builtin.clear_ #[22] 0 #[.slice (some ⟨b, 9, none⟩) 61 61]).run Try.prog w = .ok (.tuple #[]) W1 ∧ YardOwn w₀ W1 b vt vb th bd r zeros ∧ w.grownBy W1 (some b) := by
  have hr := Lib.run_clear_slice (P := Try.prog) w 22 2 0 (.int .i64 0) Try.underlying22 (fun w => by simp [zeroValue]; rfl) rfl rfl b 9 61 61 (by omega) (fun j hj => by rw [h.at_.price hj]; rfl) (fun j hj => frozen_of_blk h.at_.blk _)
  have hg := grown_sets b (List.replicate 61 (Value.int .i64 0)) 9 w
  have hE := grown_new h.ext0 hg h.new
  refine ⟨_, hr, ⟨⟨?_, h.th0.ext hE, h.bd0.ext hE, by simp [zeros]⟩, h.th0, h.bd0, h.new, hE⟩, hg⟩
  have h1 := sets_blk (List.replicate 61 (Value.int .i64 0)) 9 w _ h.at_.blk
  have h2 := ycL_write vt vb r zeros 0 ps (by rw [h.at_.len]; simp [zeros])
  rw [show zeros.map (Value.int .i64) = List.replicate 61 (Value.int .i64 0) from by simp [zeros]] at h2
  rw [h1, show (9 : Nat) = 9 + 0 from rfl, h2]
  simp
/-- The prices once those from a place on have been made. -/
def psK (q : Nat → Int) (k : Nat) : List Int := (List.range 61).map fun j => if k ≤ j then q j else 0
theorem psK_get (q : Nat → Int) {k j : Nat} (h : k ≤ j) (hj : j < 61) : (psK q k).getD j 0 = q j := by
  simp [psK, List.getD, hj, h]
theorem psK_start (q : Nat → Int) {k : Nat} (h : ∀ j, k ≤ j → q j = 0) : psK q k = zeros := by
  unfold psK zeros
  apply List.ext_getElem (by rw [List.length_map, List.length_range, List.length_replicate])
  intro i h1 h2
  rw [List.getElem_map, List.getElem_range, List.getElem_replicate]
  split
  · rename_i hk; exact h i hk
  · rfl
theorem psK_set (q : Nat → Int) {k : Nat} (hk : k < 61) : (psK q (k + 1)).set k (q k) = psK q k := by
  apply List.ext_getElem
  · simp [psK]
  · intro i h1 h2
    rw [List.getElem_set]
    by_cases e : k = i
    · subst e; simp [psK]
    · rw [if_neg e]
      simp [psK]
      by_cases h3 : k + 1 ≤ i
      · rw [if_pos h3, if_pos (by omega)]
      · rw [if_neg h3, if_neg (by omega)]
theorem psK_bd (q : Nat → Int) (M : Int) (hM : 0 ≤ M) (h : ∀ j, 0 ≤ q j ∧ q j ≤ M) (k j : Nat) : 0 ≤ (psK q k).getD j 0 ∧ (psK q k).getD j 0 ≤ M := by
  by_cases hj : j < 61
  · by_cases hk : k ≤ j
    · rw [psK_get q hk hj]; exact h j
    · simp [psK, List.getD, hj, hk]; omega
  · simp [psK, List.getD, hj]; omega
end Go.Proofs.Ytcgheakadfjofaa
