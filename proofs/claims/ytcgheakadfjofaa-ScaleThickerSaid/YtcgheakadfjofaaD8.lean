/- Prices. -/
import Derived.Test.YtcgheakadfjofaaD1
import Derived.Test.YtcgheakadfjofaaB19
import Derived.Laws.CopyOwn
namespace Go.Proofs.Ytcgheakadfjofaa
open Go.RowKit Go.Shelf
set_option linter.unusedVariables false
set_option linter.unusedSimpArgs false
attribute [local go_sem] Oper.semAt_some
theorem psK_take (q : Nat → Int) {n : Nat} (hn : n ≤ 61) : (psK q 0).take n = rowK q n 0 := by
  apply List.ext_getElem
  · simp [psK, rowK]; omega
  · intro i h1 h2
    simp [psK, rowK]
def PricesPost (w : World) (th bd : List Int) (r : Rl) (n : Nat) (E : Int) (e : Ending) (w' : World) : Prop :=
  (E ≠ 0 ∧ e = .returned (.tuple #[.slice none 0 0, .int .i64 E]) ∧ Ext w w') ∨ (E = 0 ∧ ∃ b, e = .returned (.tuple #[.slice (some ⟨b, 0, none⟩) n n, .int .i64 0]) ∧ RowOwn w w' b (rowK (bst (sF th bd r) allB (n - 1)) n 0))
set_option maxRecDepth 100000 in
set_option maxHeartbeats 4000000 in
theorem prices31 (vt vb : Value) (th bd : List Int) (r : Rl) (n : Nat) (w : World) (ht : Reads w vt th) (hd : Reads w vb bd) (hn : n = th.length) :
    Calls Try.prog 31 #[.agg #[vt, vb], r.val] w (PricesPost w th bd r n (bothE th bd r)) := by
  obtain ⟨hl, a, cap, rfl⟩ := ht.shape
  rw [← hn] at ht hl ⊢
  have E0 := Lib.hid (Ext.alloc (Ext.alloc (Ext.refl w) (.cells #[.slice a n cap, vb] 25)) (.cells #[.int .i64 r.lo, .int .i64 r.hi, .int .i64 r.st, .int .i64 r.tr, .int .i64 r.off, .int .i64 r.dv, .int .i64 r.tn] 27))
  have P0 := Lib.hid ((StemAt.new w (.slice a n cap) (vb) 25).ext (Ext.alloc (Ext.refl _) (.cells #[.int .i64 r.lo, .int .i64 r.hi, .int .i64 r.st, .int .i64 r.tr, .int .i64 r.off, .int .i64 r.dv, .int .i64 r.tn] 27)))
  have R0 := RuleAt.new (w.alloc (.cells #[.slice a n cap, vb] 25)) r 27
  rw [World.size_alloc] at R0
  have R0 := Lib.hid R0
  have h62 := fun (W : World) (h : Ext w W) => openP62 _ _ _ th bd [] r W (ht.ext h) (hd.ext h) (Reads.nil W)
  rw [placedE_nil] at h62
  have hok : bothE th bd r = 0 → n ≤ 61 ∧ 2 ≤ n := fun h => by
    obtain ⟨h1, h2⟩ := bothE_ok.1 h
    have := h1.two; have := h1.most; omega
  have hbp := show bestP th bd r = psK (bst (sF th bd r) allB (n - 1)) 0 by unfold bestP; rw [hn]
  generalize bothE th bd r = BE at *
  rw [hbp] at h62
  obtain ⟨q, hq⟩ : ∃ q, q = bst (sF th bd r) allB (n - 1) := ⟨_, rfl⟩
  rw [← hq] at h62
  have HPO := Lib.hid (show ∀ e w', ((BE ≠ 0 ∧ e = .returned (.tuple #[.slice none 0 0, .int .i64 BE]) ∧ Ext w w') ∨ (BE = 0 ∧ ∃ b, e = .returned (.tuple #[.slice (some ⟨b, 0, none⟩) n n, .int .i64 0]) ∧ RowOwn w w' b (rowK q n 0))) → PricesPost w th bd r n BE e w' from fun e w' h => by
    unfold PricesPost; rw [← hq]; exact h)
  have H62 := Lib.hid h62; have HOK := Lib.hid hok
  clear h62 hok hbp hq ht hd hn
  have ⟨g1, g2⟩ := P0.out
  have ⟨r0, r1, r2, r3, r4, r5, r6⟩ := R0.out
  go_enter Try.func31, Try.ntmps31
  go_wp2_with fail
  refine (H62.out _ E0.out).mono ?_
  rintro e w1 ⟨⟨hbe, rfl⟩ | ⟨rfl, b, rfl, hyo⟩, hb⟩
  · have hbn : (BE != 0) = true := by simpa using hbe
    have E1 := Lib.hid (E0.out.trans hb)
    have HBE := Lib.hid hbe
    clear g1 g2 r0 r1 r2 r3 r4 r5 r6 hb hbe
    go_wp2
    go_ret2
    exact HPO.out _ _ (.inl ⟨HBE.out, rfl, E1.out⟩)
  · have E1 := Lib.hid (E0.out.trans hb)
    obtain ⟨h61, h2n⟩ := HOK.out rfl
    have HY := Lib.hid hyo
    have c0 := hyo.at_.cells.1
    have hmk := make22 n (by omega)
    have hmin : Nat.min 61 n = n := Nat.min_eq_right h61
    clear g1 g2 r0 r1 r2 r3 r4 r5 r6 hb hyo HOK
    have HB8 := Lib.hid (show (w1.alloc (.cells (madeCells #[.int .i64 0] n) 2)).heap[w1.heap.size]? = some (.cells ((List.replicate n (0 : Int)).map (Value.int .i64)).toArray 2 (0, 0)) from by rw [heap_alloc_new, made_zero])
    have HY2 := Lib.hid (HY.out.ext ((Ext.refl w1).alloc (.cells (madeCells #[.int .i64 0] n) 2)))
    obtain ⟨cs, hcs⟩ : ∃ cs, cs = ((psK q 0).take n).map (Value.int .i64) := ⟨_, rfl⟩
    have HCL := Lib.hid (show cs.length = n from by rw [hcs, psK_take q h61]; simp [rowK])
    have HCC := Lib.hid (show ∀ j v, cs[j]? = some v → (w1.alloc (.cells (madeCells #[.int .i64 0] n) 2)).cell? (Addr.add ⟨b, 9, none⟩ j) = some v from by
      intro j v hj
      have hjl : j < n := by have := (List.getElem?_eq_some_iff.1 hj).1; rw [HCL.out] at this; exact this
      have h1 := HY2.out.at_.price (k := j) (by omega)
      rw [show (Addr.add ⟨b, 9, none⟩ j) = ⟨b, 9 + j, none⟩ from by simp [Addr.add], h1]
      rw [hcs, psK_take q h61, List.getElem?_map] at hj
      rw [psK_get q (Nat.zero_le _) (by omega)]
      rw [← rowK_get q (n := n) (Nat.zero_le j) hjl]
      simp only [List.getD]
      cases e : (rowK q n 0)[j]? with
      | none => rw [e] at hj; simp at hj
      | some z => rw [e] at hj; simpa using hj)
    have HC1 := Lib.hid (show ∀ v ∈ cs, v.oneCell' = true from by rw [hcs]; intro v hv; obtain ⟨z, -, rfl⟩ := List.mem_map.1 hv; rfl)
    have HCS := Lib.hid hcs
    clear hcs
    go_wp2_with (with_reducible refine wpList_copy_splice rfl (.tmp 25) (.tmp 29) 22 22 rfl 2 Try.underlying22 (by kernel_rfl) (some ⟨w1.heap.size, 0, none⟩) (some ⟨b, 9, none⟩) n n 61 61 rfl rfl w1.heap.size 0 _ 2 HB8.out cs (by rw [HCL.out]; exact hmin.symm) (fun _ => ⟨rfl, _, rfl, HCC.out⟩) (by rw [HCL.out]; simp) HC1.out w1.heap.size w1 ((Below.refl _ _).alloc (Nat.le_refl _) _) (Nat.le_refl _) ?_; intro w3 hw3 hb3)
    go_wp2
    go_ret2
    refine HPO.out _ _ (.inr ⟨by trivial, w1.heap.size, rfl, ⟨?_, E1.out.size, E1.out.trans hb3⟩⟩)
    rw [hw3.out]
    congr 2
    rw [HCS.out, psK_take q h61]
    unfold splice
    simp [rowK]
end Go.Proofs.Ytcgheakadfjofaa
