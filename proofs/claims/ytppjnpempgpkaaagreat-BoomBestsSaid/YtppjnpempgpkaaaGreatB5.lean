/- CheckPond, open, slices.ContainsFunc, turned, by their contracts. Rafts in memory: loaded, boxed, their marks; holds, every, ContainsFunc, encloses, newRaft, by their contracts. Rows of their own that are laid and stored whole; newRaft, by its contract. -/
import Derived.Test.YtppjnpempgpkaaaGreatB2
import Derived.Test.YtppjnpempgpkaaaGreatZL
import Derived.Test.YtppjnpempgpkaaaGreatI
import Derived.Deep.MidRow
namespace Go.Proofs.YtppjnpempgpkaaaGreat
open Go.RowKit
set_option linter.unusedVariables false
set_option linter.unusedSimpArgs false
theorem cells4 {X : World} {b : Nat} {v0 v1 v2 v3 : Value} {t : TypeId} {fr : Nat × Nat} (h : X.heap[b]? = some (.cells #[v0, v1, v2, v3] t fr)) : X.cell? ⟨b, 0, none⟩ = some v0 ∧ X.cell? ⟨b, 1, none⟩ = some v1 ∧ X.cell? ⟨b, 2, none⟩ = some v2 ∧ X.cell? ⟨b, 3, none⟩ = some v3 :=
  ⟨cell_of_blk h rfl, cell_of_blk h rfl, cell_of_blk h rfl, cell_of_blk h rfl⟩
theorem cells2 {X : World} {b : Nat} {v0 v1 : Value} {t : TypeId} {fr : Nat × Nat} (h : X.heap[b]? = some (.cells #[v0, v1] t fr)) : X.cell? ⟨b, 0, none⟩ = some v0 ∧ X.cell? ⟨b, 1, none⟩ = some v1 :=
  ⟨cell_of_blk h rfl, cell_of_blk h rfl⟩
theorem heap_alloc_at (w : World) (o : Obj) {n : Nat} (h : n = w.heap.size) : (w.alloc o).heap[n]? = some o := by subst h; exact heap_alloc_new w o
theorem set4 {X : World} {b : Nat} {a0 a1 a2 a3 : Value} {t : TypeId} (h : X.heap[b]? = some (.cells #[a0, a1, a2, a3] t (0, 0))) (v0 v1 v2 v3 : Value) :
    ((((X.setCell ⟨b, 0, none⟩ v0).setCell ⟨b, 1, none⟩ v1).setCell ⟨b, 2, none⟩ v2).setCell ⟨b, 3, none⟩ v3).heap[b]? = some (.cells #[v0, v1, v2, v3] t (0, 0)) := by
  have h0 : X.heap[b]? = some (.cells [a0, a1, a2, a3].toArray t (0, 0)) := h
  have := set_blk (o := 3) (set_blk (o := 2) (set_blk (o := 1) (set_blk (o := 0) h0 v0) v1) v2) v3
  simpa using this
theorem set2 {X : World} {b : Nat} {a0 a1 : Value} {t : TypeId} (h : X.heap[b]? = some (.cells #[a0, a1] t (0, 0))) (v0 v1 : Value) :
    ((X.setCell ⟨b, 0, none⟩ v0).setCell ⟨b, 1, none⟩ v1).heap[b]? = some (.cells #[v0, v1] t (0, 0)) := by
  have h0 : X.heap[b]? = some (.cells [a0, a1].toArray t (0, 0)) := h
  have := set_blk (o := 1) (set_blk (o := 0) h0 v0) v1
  simpa using this
theorem any_take {xs : List Int} {p : Int → Bool} {k : Nat} {x : Int} (h : xs[k]? = some x) : (xs.take (k + 1)).any p = ((xs.take k).any p || p x) := by
  rw [take_snoc h]; simp
/-- IndexFunc with a test by a method of a pond. -/
theorem indexFunc_wanted (pv : Value) (v : Value) (wl xs : List Int) (w : World) (hr : Reads w v xs) (hm : ∀ (X : World) (x : Int), Ext w X → Calls Tryz.prog 96 #[pv, .int .i64 x] X fun e w' => e = .returned (.bool (hasB wl x)) ∧ Ext X w') :
    Calls Tryz.prog 119 #[v, .func (.func 96) #[pv] #[]] w fun e w' => ∃ r : Int, e = .returned (.int .i64 r) ∧ Hid (decide (0 ≤ r) = xs.any (hasB wl)) ∧ (-1 ≤ r ∧ r ≤ 6000) ∧ Ext w w' := by
  obtain ⟨hl, a, cap, rfl⟩ := hr.shape
  have HC := Lib.hid hr; have HM := Lib.hid hm; clear hr hm
  have hl2 : xs.length ≤ 9223372036854775807 := by omega
  go_enter Tryz.func119, Tryz.ntmps119
  go_wp2
  go_loopw [8] (fun i wr => ∃ k : Nat, k ≤ xs.length ∧ i = .int .i64 k ∧ Hid ((xs.take k).any (hasB wl) = false) ∧ Hid (Ext w wr)) (fun i wr => xs.length - (intOf i).toNat)
  case atStart => exact ⟨0, Nat.zero_le _, rfl, Lib.hid rfl, Lib.hid (Ext.refl w)⟩
  case round =>
    obtain ⟨k, hk, rfl, hall, hE⟩ := hrel
    by_cases hlt : k < xs.length
    · obtain ⟨b, off, y, rfl, hy, hcy⟩ := (HC.out.ext hE.out).at hlt
      have HY := Lib.hid hy; clear hy
      cases hb : hasB wl y
      · have HB := Lib.hid hb; clear hb
        go_wp2_with fail
        refine (HM.out _ y hE.out).mono ?_
        rintro e w1 ⟨rfl, hb⟩
        have E1 := Lib.hid (hE.out.trans hb); clear hb
        rw [HB.out]
        go_wp2
        go_roundw
        case rel => exact ⟨k + 1, by omega, by go_num, Lib.hid (by rw [any_take HY.out, hall.out, HB.out]; rfl), E1⟩
        case measure => simp [intOf]; omega
      · have HB := Lib.hid hb; clear hb
        go_wp2_with fail
        refine (HM.out _ y hE.out).mono ?_
        rintro e w1 ⟨rfl, hb⟩
        have E1 := Lib.hid (hE.out.trans hb); clear hb
        rw [HB.out]
        go_wp2
        go_ret
        refine ⟨_, rfl, Lib.hid ?_, ⟨by omega, by omega⟩, E1.out⟩
        rw [List.any_eq_true.2 ⟨y, List.mem_of_getElem? HY.out, HB.out⟩]
        exact decide_eq_true (by omega)
    · go_wp2
      go_ret
      have : k = xs.length := by omega
      subst this
      have h1 := hall.out
      rw [List.take_of_length_le (Nat.le_refl _)] at h1
      exact ⟨_, rfl, Lib.hid (by rw [h1]; rfl), ⟨by omega, by omega⟩, hE.out⟩
theorem containsFunc_wanted (pv : Value) (v : Value) (wl xs : List Int) (w : World) (hr : Reads w v xs) (hm : ∀ (X : World) (x : Int), Ext w X → Calls Tryz.prog 96 #[pv, .int .i64 x] X fun e w' => e = .returned (.bool (hasB wl x)) ∧ Ext X w') :
    Calls Tryz.prog 102 #[v, .func (.func 96) #[pv] #[]] w fun e w' => e = .returned (.bool (xs.any (hasB wl))) ∧ Ext w w' := by
  obtain ⟨hl, a, cap, rfl⟩ := hr.shape
  have HC := Lib.hid (indexFunc_wanted pv _ wl xs w hr hm); clear hr hm
  go_enter Tryz.func102, Tryz.ntmps102
  go_wp2_with fail
  refine HC.out.mono ?_
  rintro e w' ⟨r, rfl, hr, ⟨h1, h2⟩, hE⟩
  have HE := Lib.hid hE; clear hE
  go_wp2
  go_ret
  exact ⟨ret_bool hr.out, HE.out⟩
set_option maxRecDepth 100000 in
theorem checkPond_c (W H : Int) (nw cw nk ck : Nat) (aw ak : Option Addr) (wl kl : List Int) (w : World) (hw : Reads w (.slice aw nw cw) wl) (hk : Reads w (.slice ak nk ck) kl) :
    Calls Tryz.prog 80 #[.agg #[.int .i64 W, .int .i64 H, .slice aw nw cw, .slice ak nk ck]] w fun e w' => e = .returned (.int .i64 (chkP W H wl kl)) ∧ Ext w w' := by
  have E0 := Lib.hid (((Ext.refl w).alloc (.cells #[.int .i64 W, .int .i64 H, .slice aw nw cw, .slice ak nk ck] 24)).alloc (.cells #[.int .i64 W, .int .i64 H, .slice aw nw cw, .slice ak nk ck] 72))
  obtain ⟨r, hr⟩ : ∃ r, r = chkP W H wl kl := ⟨_, rfl⟩
  rw [← hr]
  have HR := Lib.hid hr; clear hr
  have HWL := Lib.hid hw; have HKL := Lib.hid hk; clear hw hk
  cases hb : inn 1 8 [W, H]
  · have HB := Lib.hid hb
    have hno : ¬ ((1 ≤ W ∧ W ≤ 8) ∧ 1 ≤ H ∧ H ≤ 8) := fun h => by
      have : inn 1 8 [W, H] = true := inn_mem.2 fun x hx => by
        simp at hx; rcases hx with rfl | rfl <;> omega
      rw [hb] at this; cases this
    have HNO := Lib.hid (show r = 3 from by rw [HR.out]; unfold chkP; rw [if_pos hno])
    clear hb hno
    go_enter Tryz.func80, Tryz.ntmps80
    go_wp2_with fail
    refine (within2 1 8 W H _ _ (by simp)).mono ?_
    rintro e w1 ⟨rfl, rfl⟩
    rw [HB.out]
    go_wp2
    go_ret
    exact ⟨ret_int HNO.out.symm, E0.out.alloc _⟩
  · have HB := Lib.hid hb
    have h1 := inn_mem.1 hb W (by simp)
    have h2 := inn_mem.1 hb H (by simp)
    obtain ⟨W, rfl⟩ : ∃ n : Nat, W = (n : Int) := ⟨W.toNat, by omega⟩
    obtain ⟨H, rfl⟩ : ∃ n : Nat, H = (n : Int) := ⟨H.toNat, by omega⟩
    have HA := Lib.hid (fun (X : World) (h : Ext w X) => lists_c W H nw cw nk ck aw ak _ wl X (by omega) (by omega) (HWL.out.ext h))
    have HB2 := Lib.hid (fun (X : World) (h : Ext w X) => lists_c W H nw cw nk ck aw ak _ kl X (by omega) (by omega) (HKL.out.ext h))
    have HF := Lib.hid (fun (X : World) (h : Ext w X) => containsFunc_wanted (.agg #[.int .i64 (W : Int), .int .i64 (H : Int), .slice aw nw cw, .slice ak nk ck]) _ wl kl X (HKL.out.ext h) (fun Y x hY => isWanted_c W H nw cw nk ck aw ak wl x Y (HWL.out.ext (h.trans hY))))
    have HC := Lib.hid (show r = if lstB (W * H) wl = false ∨ lstB (W * H) kl = false then 2 else if kl.any (hasB wl) = true then 11 else 0 from by rw [HR.out]; unfold chkP; rw [if_neg (by omega)]; rfl)
    generalize lstB (W * H) wl = c1 at *
    generalize lstB (W * H) kl = c2 at *
    generalize kl.any (hasB wl) = c3 at *
    clear hb HR h1 h2
    cases c1
    · go_enter Tryz.func80, Tryz.ntmps80
      go_wp2_with fail
      refine (within2 1 8 (W : Int) (H : Int) _ _ (by simp)).mono ?_
      rintro e w1 ⟨rfl, rfl⟩
      rw [HB.out]
      go_wp2_with fail
      refine (HA.out _ (E0.out.alloc _)).mono ?_
      rintro e w2 ⟨rfl, hb⟩
      have E2 := Lib.hid ((E0.out.alloc _).trans hb); clear hb
      go_wp2
      go_ret
      exact ⟨ret_int (by rw [HC.out]; simp), E2.out⟩
    · have W0 := Lib.hid (heap_alloc_new w (.cells #[.int .i64 (W : Int), .int .i64 (H : Int), .slice aw nw cw, .slice ak nk ck] 24))
      have W1 := Lib.hid (heap_alloc_at (w.alloc (.cells #[.int .i64 (W : Int), .int .i64 (H : Int), .slice aw nw cw, .slice ak nk ck] 24)) (.cells #[.int .i64 (W : Int), .int .i64 (H : Int), .slice aw nw cw, .slice ak nk ck] 72) (n := w.heap.size + 1) (by simp))
      cases c2
      · go_enter Tryz.func80, Tryz.ntmps80
        go_wp2_with fail
        refine (within2 1 8 (W : Int) (H : Int) _ _ (by simp)).mono ?_
        rintro e w1 ⟨rfl, rfl⟩
        rw [HB.out]
        go_wp2_with fail
        refine (HA.out _ (E0.out.alloc _)).mono ?_
        rintro e w2 ⟨rfl, hb⟩
        have E2 := Lib.hid ((E0.out.alloc _).trans hb)
        obtain ⟨p0, p1, p2, p3⟩ := cells4 (block_ext (((Ext.refl _).alloc _).trans hb) (block_ext ((Ext.refl _).alloc _) W0.out))
        obtain ⟨q0, q1, q2, q3⟩ := cells4 (block_ext (((Ext.refl _).alloc _).trans hb) W1.out)
        clear hb
        go_wp2_with fail
        refine (HB2.out _ E2.out).mono ?_
        rintro e w3 ⟨rfl, hb⟩
        have E3 := Lib.hid (E2.out.trans hb); clear hb
        go_wp2
        go_ret
        exact ⟨ret_int (by rw [HC.out]; simp), E3.out⟩
      · go_enter Tryz.func80, Tryz.ntmps80
        go_wp2_with fail
        refine (within2 1 8 (W : Int) (H : Int) _ _ (by simp)).mono ?_
        rintro e w1 ⟨rfl, rfl⟩
        rw [HB.out]
        go_wp2_with fail
        refine (HA.out _ (E0.out.alloc _)).mono ?_
        rintro e w2 ⟨rfl, hb⟩
        have E2 := Lib.hid ((E0.out.alloc _).trans hb)
        have B0 := Lib.hid (block_ext (((Ext.refl _).alloc _).trans hb) (block_ext ((Ext.refl _).alloc _) W0.out))
        have B1 := Lib.hid (block_ext (((Ext.refl _).alloc _).trans hb) W1.out)
        obtain ⟨p0, p1, p2, p3⟩ := cells4 B0.out
        obtain ⟨q0, q1, q2, q3⟩ := cells4 B1.out
        clear hb
        go_wp2_with fail
        refine (HB2.out _ E2.out).mono ?_
        rintro e w3 ⟨rfl, hb⟩
        have E3 := Lib.hid (E2.out.trans hb)
        clear p0 p1 p2 p3 q0 q1 q2 q3
        obtain ⟨p0, p1, p2, p3⟩ := cells4 (block_ext hb B0.out)
        obtain ⟨q0, q1, q2, q3⟩ := cells4 (block_ext hb B1.out)
        clear hb
        go_wp2_with fail
        refine (HF.out _ E3.out).mono ?_
        rintro e w4 ⟨rfl, hb⟩
        have E4 := Lib.hid (E3.out.trans hb); clear hb
        cases c3
        all_goals
          go_wp2
          go_ret
          exact ⟨ret_int (by rw [HC.out]; simp), E4.out⟩
/-- What open hands back. -/
theorem open_c (W H : Int) (nw cw nk ck : Nat) (aw ak : Option Addr) (wl kl : List Int) (w : World) (hw : Reads w (.slice aw nw cw) wl) (hk : Reads w (.slice ak nk ck) kl) :
    Calls Tryz.prog 44 #[.agg #[.int .i64 W, .int .i64 H, .slice aw nw cw, .slice ak nk ck]] w fun e w' => (chkP W H wl kl = 0 ∧ e = .returned (.tuple #[.agg #[.int .i64 W, .int .i64 H, .slice aw nw cw, .slice ak nk ck], .int .i64 0]) ∨ chkP W H wl kl ≠ 0 ∧ e = .returned (.tuple #[.agg #[.int .i64 0, .int .i64 0, .slice none 0 0, .slice none 0 0], .int .i64 (chkP W H wl kl)])) ∧ Ext w w' := by
  have E0 := Lib.hid (((Ext.refl w).alloc (.cells #[.int .i64 W, .int .i64 H, .slice aw nw cw, .slice ak nk ck] 24)).alloc (.cells #[.int .i64 0, .int .i64 0, .slice none 0 0, .slice none 0 0] 72))
  have HP := Lib.hid (fun (X : World) (h : Ext w X) => checkPond_c W H nw cw nk ck aw ak wl kl X (hw.ext h) (hk.ext h))
  have W0 := Lib.hid (heap_alloc_new w (.cells #[.int .i64 W, .int .i64 H, .slice aw nw cw, .slice ak nk ck] 24))
  have W1 := Lib.hid (heap_alloc_at (w.alloc (.cells #[.int .i64 W, .int .i64 H, .slice aw nw cw, .slice ak nk ck] 24)) (.cells #[.int .i64 0, .int .i64 0, .slice none 0 0, .slice none 0 0] 72) (n := w.heap.size + 1) (by simp))
  clear hw hk
  generalize chkP W H wl kl = r at *
  by_cases h0 : r = 0
  · subst h0
    go_enter Tryz.func44, Tryz.ntmps44
    go_wp2_with fail
    refine (HP.out _ E0.out).mono ?_
    rintro e w1 ⟨rfl, hb⟩
    have E1 := Lib.hid (E0.out.trans hb)
    obtain ⟨p0, p1, p2, p3⟩ := cells4 (block_ext hb (block_ext ((Ext.refl _).alloc _) W0.out))
    obtain ⟨q0, q1, q2, q3⟩ := cells4 (block_ext hb W1.out)
    have f0 := frozen_of_blk (block_ext hb W1.out) 0
    have f1 := frozen_of_blk (block_ext hb W1.out) 1
    have f2 := frozen_of_blk (block_ext hb W1.out) 2
    have f3 := frozen_of_blk (block_ext hb W1.out) 3
    have S4 := Lib.hid (set4 (block_ext hb W1.out) (.int .i64 W) (.int .i64 H) (.slice aw nw cw) (.slice ak nk ck))
    clear hb
    go_wp2
    obtain ⟨r0, r1, r2, r3⟩ := cells4 S4.out
    refine bodyPost_ret (by simp [results, Tryz.results44, go_sem, r0, r1, r2, r3]) rfl ⟨.inl ⟨trivial, rfl⟩, ?_⟩
    exact (((E1.out.set (by omega) _ _).set (by omega) _ _).set (by omega) _ _).set (by omega) _ _
  · have hb : (r != 0) = true := by simpa using h0
    have H0 := Lib.hid h0; clear h0
    go_enter Tryz.func44, Tryz.ntmps44
    go_wp2_with fail
    refine (HP.out _ E0.out).mono ?_
    rintro e w1 ⟨rfl, hb⟩
    have E1 := Lib.hid (E0.out.trans hb)
    obtain ⟨q0, q1, q2, q3⟩ := cells4 (block_ext hb W1.out)
    have f0 := frozen_of_blk (block_ext hb W1.out) 0
    have f1 := frozen_of_blk (block_ext hb W1.out) 1
    have f2 := frozen_of_blk (block_ext hb W1.out) 2
    have f3 := frozen_of_blk (block_ext hb W1.out) 3
    have S4 := Lib.hid (set4 (block_ext hb W1.out) (.int .i64 0) (.int .i64 0) (.slice none 0 0) (.slice none 0 0))
    clear hb
    go_wp2
    obtain ⟨r0, r1, r2, r3⟩ := cells4 S4.out
    refine bodyPost_ret (by simp [results, Tryz.results44, go_sem, r0, r1, r2, r3]) rfl ⟨.inr ⟨H0.out, rfl⟩, ?_⟩
    exact (((E1.out.set (by omega) _ _).set (by omega) _ _).set (by omega) _ _).set (by omega) _ _
end Go.Proofs.YtppjnpempgpkaaaGreat
namespace Go.Proofs.YtppjnpempgpkaaaGreat
open Go.RowKit
set_option linter.unusedVariables false
set_option linter.unusedSimpArgs false
/-- A load behind a guard that is met. -/
theorem wpList_load_rowG {P : Program} {ops : Array Oper} {rest : List Oper} {o : Oper} {a : Act} {w : World} {Q : Exit → Act → World → Prop} (hw : Region.wanted o (yielded ops a.tmps) = true) (ty : TypeId) (x : Operand) (ho : o.op = .load ty x)
    (g : Nat) (hx : a.eval x = .pointer (some ⟨g, 0, none⟩)) (t : TypeId) (cs : Array Value) (fr : Nat × Nat) (d : TypeDesc) (hg : w.heap[g]? = some (.cells cs t fr))
    (hu : P.underlying ty = some d) (hd : (match d with | .struct _ | .array _ _ => true | _ => false) = true) (hi : (P.info? ty).map (·.size) = some cs.size)
    (h : wpList P ops Q rest (a.put o.dst (.agg cs)) w) : wpList P ops Q (o :: rest) a w :=
  wpList_step fun K hK => by simp only [hw, if_true]; exact wp_load_row ty x ho g hx t cs fr d hg hu hd hi (hK _ _ h)
/-- The cells of a raft. -/
def rc (W H : Nat) (vw vk : Value) (rd : List Bool) : List Value := [.int .i64 (W : Int), .int .i64 (H : Int), vw, vk] ++ rd.map .bool
structure IsRaft (A : Array Value) (W H : Nat) (vw vk : Value) (rd : List Bool) : Prop where
  eq : A = (rc W H vw vk rd).toArray
  len : rd.length = 64
theorem IsRaft.size {A : Array Value} {W H : Nat} {vw vk : Value} {rd : List Bool} (h : IsRaft A W H vw vk rd) : A.size = 68 := by rw [h.eq]; simp [rc, h.len]
theorem infoRaft : (Tryz.prog.info? 78).map (·.size) = some 68 := by kernel_rfl
theorem IsRaft.info {A : Array Value} {W H : Nat} {vw vk : Value} {rd : List Bool} (h : IsRaft A W H vw vk rd) : (Tryz.prog.info? 78).map (·.size) = some A.size := by rw [h.size]; exact infoRaft
theorem IsRaft.head {A : Array Value} {W H : Nat} {vw vk : Value} {rd : List Bool} (h : IsRaft A W H vw vk rd) : A[0]? = some (.int .i64 (W : Int)) ∧ A[1]? = some (.int .i64 (H : Int)) ∧ A[2]? = some vw ∧ A[3]? = some vk := by
  rw [h.eq]; exact ⟨rfl, rfl, rfl, rfl⟩
theorem isR_some {rd : List Bool} {c : Nat} (h : c < rd.length) : rd[c]? = some (isR rd c) := by unfold isR; rw [List.getD_eq_getElem?_getD, List.getElem?_eq_getElem h]; rfl
theorem IsRaft.at {A : Array Value} {W H : Nat} {vw vk : Value} {rd : List Bool} (h : IsRaft A W H vw vk rd) {c : Nat} (hc : c < 64) : A[4 + c]? = some (.bool (isR rd c)) := by
  have h1 := isR_some (rd := rd) (c := c) (by rw [h.len]; exact hc)
  rw [h.eq, List.getElem?_toArray]
  unfold rc
  rw [List.getElem?_append_right (by simp)]
  simp [h1]
theorem IsRaft.one {A : Array Value} {W H nw cw nk ck : Nat} {aw ak : Option Addr} {rd : List Bool} (h : IsRaft A W H (.slice aw nw cw) (.slice ak nk ck) rd) : A.all (·.oneCell') = true := by
  rw [h.eq]
  exact all_oneCell_toArray fun v hv => by
    unfold rc at hv
    simp only [List.mem_append, List.mem_cons, List.mem_map, List.not_mem_nil, or_false] at hv
    rcases hv with (rfl | rfl | rfl | rfl) | ⟨b, -, rfl⟩ <;> rfl
/-- What a raft has at a number of a cell, or beyond. -/
def hld (rd : List Bool) (c : Int) : Bool := decide (0 ≤ c) && isR rd c.toNat
theorem hld_neg (rd : List Bool) : hld rd (-1) = false := rfl
theorem hld_nat (rd : List Bool) (c : Nat) : hld rd (c : Int) = isR rd c := by simp [hld]
theorem hld_nx {rd : List Bool} {W H c k : Nat} : hld rd (nx W H c k) = inW (isR rd) (bhP W H (c, k)) := by
  unfold nx
  cases e : bhP W H (c, k) with
  | none => rfl
  | some d => exact hld_nat rd d
theorem holds_c {A : Array Value} {W H : Nat} {vw vk : Value} {rd : List Bool} (hA : IsRaft A W H vw vk rd) (c : Int) (hc : -1 ≤ c ∧ c < 64) (w : World) :
    Calls Tryz.prog 53 #[.agg A, .int .i64 c] w fun e w' => e = .returned (.bool (hld rd c)) ∧ Ext w w' := by
  have E0 := Lib.hid ((Ext.refl w).alloc (.cells A 78))
  by_cases h : c = -1
  · subst h
    go_enter Tryz.func53, Tryz.ntmps53
    go_wp2
    go_ret
    exact ⟨rfl, E0.out⟩
  · obtain ⟨n, rfl⟩ : ∃ n : Nat, c = (n : Int) := ⟨c.toNat, by omega⟩
    rw [hld_nat]
    have c0 : (w.alloc (.cells A 78)).cell? ⟨w.heap.size, 4 + n, none⟩ = some (.bool (isR rd n)) := cell_of_blk (heap_alloc_new w _) (hA.at (by omega))
    have h1 : (0 : Int) ≤ (n : Int) := by omega
    have h2 : (n : Int) < 64 := by omega
    have h3 : (n : Int).toNat = n := by omega
    have h4 : ((n : Int) != -1) = true := by simp
    have h5 : n < 64 := by omega
    clear h hc
    generalize isR rd n = b at *
    go_enter Tryz.func53, Tryz.ntmps53
    go_wp2
    go_ret
    exact ⟨rfl, E0.out⟩
theorem all_take {xs : List Int} {p : Int → Bool} {k : Nat} {x : Int} (h : xs[k]? = some x) : (xs.take (k + 1)).all p = ((xs.take k).all p && p x) := by
  rw [take_snoc h]; simp
theorem every_holds {A : Array Value} {W H : Nat} {vw vk : Value} {rd : List Bool} (hA : IsRaft A W H vw vk rd) (v : Value) (xs : List Int) (w : World) (hr : Reads w v xs) (hx : ∀ x ∈ xs, -1 ≤ x ∧ x < 64) :
    Calls Tryz.prog 101 #[v, .func (.func 53) #[.agg A] #[]] w fun e w' => e = .returned (.bool (xs.all (hld rd))) ∧ Ext w w' := by
  obtain ⟨hl, a, cap, rfl⟩ := hr.shape
  have HC := Lib.hid hr; clear hr
  have hl2 : xs.length ≤ 9223372036854775807 := by omega
  go_enter Tryz.func101, Tryz.ntmps101
  go_wp2
  go_loopw [9] (fun i wr => ∃ k : Nat, k ≤ xs.length ∧ i = .int .i64 k ∧ Hid ((xs.take k).all (hld rd) = true) ∧ Hid (Ext w wr)) (fun i wr => xs.length - (intOf i).toNat)
  case atStart => exact ⟨0, Nat.zero_le _, rfl, Lib.hid rfl, Lib.hid (Ext.refl w)⟩
  case round =>
    obtain ⟨k, hk, rfl, hall, hE⟩ := hrel
    by_cases hlt : k < xs.length
    · obtain ⟨b, off, y, rfl, hy, hcy⟩ := (HC.out.ext hE.out).at hlt
      have HH := Lib.hid (fun (X : World) => holds_c hA y (hx y (List.mem_of_getElem? hy)) X)
      have HY := Lib.hid hy; clear hy
      cases hb : hld rd y
      · have HB := Lib.hid hb; clear hb
        go_wp2_with fail
        refine (HH.out _).mono ?_
        rintro e w1 ⟨rfl, hb⟩
        have E1 := Lib.hid (hE.out.trans hb); clear hb
        rw [HB.out]
        go_wp2
        go_ret
        refine ⟨ret_bool ?_, E1.out⟩
        symm
        rw [List.all_eq_false]
        exact ⟨y, List.mem_of_getElem? HY.out, by rw [HB.out]; simp⟩
      · have HB := Lib.hid hb; clear hb
        go_wp2_with fail
        refine (HH.out _).mono ?_
        rintro e w1 ⟨rfl, hb⟩
        have E1 := Lib.hid (hE.out.trans hb); clear hb
        rw [HB.out]
        go_wp2
        go_roundw
        case rel => exact ⟨k + 1, by omega, by go_num, Lib.hid (by rw [all_take HY.out, hall.out, HB.out]; rfl), E1⟩
        case measure => simp [intOf]; omega
    · go_wp2
      go_ret
      have : k = xs.length := by omega
      subst this
      have h1 := hall.out
      rw [List.take_of_length_le (Nat.le_refl _)] at h1
      exact ⟨ret_bool h1.symm, hE.out⟩
theorem indexFunc_holds {A : Array Value} {W H : Nat} {vw vk : Value} {rd : List Bool} (hA : IsRaft A W H vw vk rd) (v : Value) (xs : List Int) (w : World) (hr : Reads w v xs) (hx : ∀ x ∈ xs, -1 ≤ x ∧ x < 64) :
    Calls Tryz.prog 119 #[v, .func (.func 53) #[.agg A] #[]] w fun e w' => ∃ r : Int, e = .returned (.int .i64 r) ∧ Hid (decide (0 ≤ r) = xs.any (hld rd)) ∧ (-1 ≤ r ∧ r ≤ 6000) ∧ Ext w w' := by
  obtain ⟨hl, a, cap, rfl⟩ := hr.shape
  have HC := Lib.hid hr; clear hr
  have hl2 : xs.length ≤ 9223372036854775807 := by omega
  go_enter Tryz.func119, Tryz.ntmps119
  go_wp2
  go_loopw [8] (fun i wr => ∃ k : Nat, k ≤ xs.length ∧ i = .int .i64 k ∧ Hid ((xs.take k).any (hld rd) = false) ∧ Hid (Ext w wr)) (fun i wr => xs.length - (intOf i).toNat)
  case atStart => exact ⟨0, Nat.zero_le _, rfl, Lib.hid rfl, Lib.hid (Ext.refl w)⟩
  case round =>
    obtain ⟨k, hk, rfl, hall, hE⟩ := hrel
    by_cases hlt : k < xs.length
    · obtain ⟨b, off, y, rfl, hy, hcy⟩ := (HC.out.ext hE.out).at hlt
      have HH := Lib.hid (fun (X : World) => holds_c hA y (hx y (List.mem_of_getElem? hy)) X)
      have HY := Lib.hid hy; clear hy
      cases hb : hld rd y
      · have HB := Lib.hid hb; clear hb
        go_wp2_with fail
        refine (HH.out _).mono ?_
        rintro e w1 ⟨rfl, hb⟩
        have E1 := Lib.hid (hE.out.trans hb); clear hb
        rw [HB.out]
        go_wp2
        go_roundw
        case rel => exact ⟨k + 1, by omega, by go_num, Lib.hid (by rw [any_take HY.out, hall.out, HB.out]; rfl), E1⟩
        case measure => simp [intOf]; omega
      · have HB := Lib.hid hb; clear hb
        go_wp2_with fail
        refine (HH.out _).mono ?_
        rintro e w1 ⟨rfl, hb⟩
        have E1 := Lib.hid (hE.out.trans hb); clear hb
        rw [HB.out]
        go_wp2
        go_ret
        refine ⟨_, rfl, Lib.hid ?_, ⟨by omega, by omega⟩, E1.out⟩
        rw [List.any_eq_true.2 ⟨y, List.mem_of_getElem? HY.out, HB.out⟩]
        exact decide_eq_true (by omega)
    · go_wp2
      go_ret
      have : k = xs.length := by omega
      subst this
      have h1 := hall.out
      rw [List.take_of_length_le (Nat.le_refl _)] at h1
      exact ⟨_, rfl, Lib.hid (by rw [h1]; rfl), ⟨by omega, by omega⟩, hE.out⟩
theorem containsFunc_holds {A : Array Value} {W H : Nat} {vw vk : Value} {rd : List Bool} (hA : IsRaft A W H vw vk rd) (v : Value) (xs : List Int) (w : World) (hr : Reads w v xs) (hx : ∀ x ∈ xs, -1 ≤ x ∧ x < 64) :
    Calls Tryz.prog 102 #[v, .func (.func 53) #[.agg A] #[]] w fun e w' => e = .returned (.bool (xs.any (hld rd))) ∧ Ext w w' := by
  obtain ⟨hl, a, cap, rfl⟩ := hr.shape
  have HC := Lib.hid (indexFunc_holds hA _ xs w hr hx); clear hr
  go_enter Tryz.func102, Tryz.ntmps102
  go_wp2_with fail
  refine HC.out.mono ?_
  rintro e w' ⟨r, rfl, hr, ⟨h1, h2⟩, hE⟩
  have HE := Lib.hid hE; clear hE
  go_wp2
  go_ret
  exact ⟨ret_bool hr.out, HE.out⟩
/-- A raft encloses. -/
def encR (wl kl : List Int) (rd : List Bool) : Bool := wl.all (hld rd) && !kl.any (hld rd)
set_option maxRecDepth 100000 in
theorem encloses_c (W H nw cw nk ck : Nat) (aw ak : Option Addr) {A : Array Value} {rd : List Bool} (hA : IsRaft A W H (.slice aw nw cw) (.slice ak nk ck) rd) (wl kl : List Int) (w : World) (hw : Reads w (.slice aw nw cw) wl) (hk : Reads w (.slice ak nk ck) kl) (hwx : ∀ x ∈ wl, -1 ≤ x ∧ x < 64) (hkx : ∀ x ∈ kl, -1 ≤ x ∧ x < 64) :
    Calls Tryz.prog 65 #[.agg A] w fun e w' => e = .returned (.bool (encR wl kl rd)) ∧ Ext w w' := by
  have E0 := Lib.hid ((Ext.refl w).alloc (.cells A 78))
  have W0 := Lib.hid (heap_alloc_new w (.cells A 78))
  have H1 := Lib.hid (fun (X : World) (h : Ext w X) => every_holds hA _ wl X (hw.ext h) hwx)
  have H2 := Lib.hid (fun (X : World) (h : Ext w X) => containsFunc_holds hA _ kl X (hk.ext h) hkx)
  have c2 : (w.alloc (.cells A 78)).cell? ⟨w.heap.size, 2, none⟩ = some (.slice aw nw cw) := cell_of_blk W0.out hA.head.2.2.1
  have HI := Lib.hid hA.info
  have C3 := Lib.hid hA.head.2.2.2
  have hd : encR wl kl rd = (wl.all (hld rd) && !kl.any (hld rd)) := rfl
  rw [hd]
  generalize wl.all (hld rd) = b1 at *
  generalize kl.any (hld rd) = b2 at *
  clear hd hw hk hwx hkx
  cases b1
  · go_enter Tryz.func65, Tryz.ntmps65
    go_wp2_with (first | (refine wpList_load_row rfl 78 _ rfl _ rfl _ _ _ _ W0.out Tryz.underlying78 rfl HI.out ?_) | fail)
    refine (H1.out _ E0.out).mono ?_
    rintro e w1 ⟨rfl, hb⟩
    have E1 := Lib.hid (E0.out.trans hb); clear hb
    go_wp2
    go_ret
    exact ⟨rfl, E1.out⟩
  · go_enter Tryz.func65, Tryz.ntmps65
    go_wp2_with (first | (refine wpList_load_row rfl 78 _ rfl _ rfl _ _ _ _ W0.out Tryz.underlying78 rfl HI.out ?_) | fail)
    refine (H1.out _ E0.out).mono ?_
    rintro e w1 ⟨rfl, hb⟩
    have E1 := Lib.hid (E0.out.trans hb)
    have W1 := Lib.hid (block_ext hb W0.out); clear hb
    have c3 : w1.cell? ⟨w.heap.size, 3, none⟩ = some (.slice ak nk ck) := cell_of_blk W1.out C3.out
    go_wp2_with (first | (refine wpList_load_rowG (by rfl) 78 _ rfl _ rfl _ _ _ _ W1.out Tryz.underlying78 rfl HI.out ?_) | fail)
    refine (H2.out _ E1.out).mono ?_
    rintro e w2 ⟨rfl, hb⟩
    have E2 := Lib.hid (E1.out.trans hb); clear hb
    go_wp2
    go_ret
    exact ⟨rfl, E2.out⟩
end Go.Proofs.YtppjnpempgpkaaaGreat
namespace Go.Proofs.YtppjnpempgpkaaaGreat
open Go.RowKit
set_option linter.unusedVariables false
set_option linter.unusedSimpArgs false
def Allocs (ty : TypeId) (Z : Array Value) : Prop := ∀ w : World, (Instr.alloc ty true (.tuple #[])).run Tryz.prog w = .ok (.pointer (some ⟨w.heap.size, 0, none⟩)) (w.alloc (.cells Z ty))
section
attribute [local go_sem] Oper.semAt_some
theorem setRow_heap' (w : World) (g : Nat) (cells old : Array Value) (t : TypeId) (h : w.heap[g]? = some (.cells old t (0, 0))) : (w.setRow g cells).heap[g]? = some (.cells cells t (0, 0)) := setRow_heap _ _ _ _ _ _ h
theorem setRow_ext {w X : World} (h : Ext w X) {g : Nat} (hg : w.heap.size ≤ g) (cells : Array Value) : Ext w (X.setRow g cells) := by
  refine ⟨h.os, h.tape, h.output, by have := h.size; simpa [World.setRow] using this, fun k hk => ?_⟩
  rw [← h.block k hk]
  simp [World.setRow, Array.getElem?_modify]
  intro e; omega
theorem setRow_other {X : World} {g k : Nat} (hne : g ≠ k) (cells : Array Value) : (X.setRow g cells).heap[k]? = X.heap[k]? := by
  simp [World.setRow, Array.getElem?_modify]
  intro e; omega
theorem setRow_size (X : World) (g : Nat) (cells : Array Value) : (X.setRow g cells).heap.size = X.heap.size := by simp [World.setRow]
/-- A new variable of a row. -/
theorem wp_allocRow {ops : Array Oper} {rest : List Oper} {o1 : Oper} {a : Act} {w : World} {Q : Exit → Act → World → Prop} (g1 : o1.guard = none) (ty : TypeId) (h1 : o1.op = .alloc ty) {Z : Array Value} (hz : Allocs ty Z)
    (h : wpList Tryz.prog ops Q rest (a.put o1.dst (.pointer (some ⟨w.heap.size, 0, none⟩))) (w.alloc (.cells Z ty))) : wpList Tryz.prog ops Q (o1 :: rest) a w := by
  refine wpList_plain g1 fun K hK => ?_
  unfold Oper.wp execOp
  rw [h1]
  simp only [Sem.run_bind, hz w, Result.andThen_ok, Sem.run_pure]
  have := hK _ _ h
  rw [Oper.upon_value]
  exact this
/-- A new variable of a row, and what is stored into it. -/
theorem wp_newRow {ops : Array Oper} {rest : List Oper} {o1 o2 : Oper} {a : Act} {w : World} {Q : Exit → Act → World → Prop} (g1 : o1.guard = none) (g2 : o2.guard = none) (ty : TypeId) (p : Tmp) (y : Operand) (h1 : o1.op = .alloc ty) (h2 : o2.op = .store ty (.tmp p) y) (d1 : o1.dst = some p) {Z : Array Value} (hz : Allocs ty Z)
    (A : Array Value) (hi : (Tryz.prog.info? ty).map (·.size) = some A.size) (hs : Z.size = A.size) (hone : A.all (·.oneCell') = true) (hx : (a.put (some p) (.pointer (some ⟨w.heap.size, 0, none⟩))).eval (.tmp p) = .pointer (some ⟨w.heap.size, 0, none⟩))
    (hy : (a.put (some p) (.pointer (some ⟨w.heap.size, 0, none⟩))).eval y = .agg A)
    (h : ∀ W' : World, W'.heap[w.heap.size]? = some (.cells A ty (0, 0)) → Ext w W' → W'.heap.size = w.heap.size + 1 → wpList Tryz.prog ops Q rest ((a.put (some p) (.pointer (some ⟨w.heap.size, 0, none⟩))).put o2.dst undef) W') :
    wpList Tryz.prog ops Q (o1 :: o2 :: rest) a w := by
  refine wpList_plain g1 fun K hK => ?_
  unfold Oper.wp execOp
  rw [h1]
  simp only [Sem.run_bind, hz w, Result.andThen_ok, Sem.run_pure]
  have hb : (w.alloc (.cells Z ty)).heap[w.heap.size]? = some (.cells Z ty (0, 0)) := heap_alloc_new _ _
  have key : wpList Tryz.prog ops Q (o2 :: rest) (a.put (some p) (.pointer (some ⟨w.heap.size, 0, none⟩))) (w.alloc (.cells Z ty)) := by
    refine wpList_store_row g2 ty (.tmp p) y h2 w.heap.size A hx hy ty _ hb hi hs hone ?_
    exact h _ (setRow_heap' _ _ _ _ _ hb) (setRow_ext ((Ext.refl w).alloc _) (Nat.le_refl _) _) (by rw [setRow_size]; simp)
  have := hK _ _ key
  rw [Oper.upon_value, d1]
  exact this
end
def no64 : List Bool := List.replicate 64 false
def zR : Array Value := (rc 0 0 (.slice none 0 0) (.slice none 0 0) no64).toArray
set_option maxRecDepth 100000 in
theorem alloc_raft : Allocs 78 zR := by
  intro w
  simp [go_sem]
  rfl
/-- A raft of the call's own. -/
def RaftB (X : World) (b W H : Nat) (vw vk : Value) (rd : List Bool) : Prop := X.heap[b]? = some (.cells (rc W H vw vk rd).toArray 78 (0, 0))
theorem RaftB.set {X : World} {b W H : Nat} {vw vk : Value} {rd : List Bool} (h : RaftB X b W H vw vk rd) (c : Nat) (v : Bool) : RaftB (X.setCell ⟨b, 4 + c, none⟩ (.bool v)) b W H vw vk (rd.set c v) := by
  unfold RaftB at h ⊢
  rw [set_blk h]
  unfold rc
  rw [List.set_append_right _ _ (by simp), List.map_set]
  simp
theorem RaftB.isRaft (W H : Nat) (vw vk : Value) {rd : List Bool} (hl : rd.length = 64) : IsRaft (rc W H vw vk rd).toArray W H vw vk rd := ⟨rfl, hl⟩
theorem RaftB.cell {X : World} {b W H : Nat} {vw vk : Value} {rd : List Bool} (h : RaftB X b W H vw vk rd) (hl : rd.length = 64) {c : Nat} (hc : c < 64) : X.cell? ⟨b, 4 + c, none⟩ = some (.bool (isR rd c)) := cell_of_blk h ((RaftB.isRaft W H vw vk hl).at hc)
theorem RaftB.head {X : World} {b W H : Nat} {vw vk : Value} {rd : List Bool} (h : RaftB X b W H vw vk rd) : X.cell? ⟨b, 0, none⟩ = some (.int .i64 (W : Int)) ∧ X.cell? ⟨b, 1, none⟩ = some (.int .i64 (H : Int)) ∧ X.cell? ⟨b, 2, none⟩ = some vw ∧ X.cell? ⟨b, 3, none⟩ = some vk :=
  ⟨cell_of_blk h rfl, cell_of_blk h rfl, cell_of_blk h rfl, cell_of_blk h rfl⟩
/-- The marks of a list of cells. -/
def mkR (xs : List Nat) : List Bool := xs.foldl (fun rd c => rd.set c true) no64
theorem mkR_snoc (xs : List Nat) (c : Nat) : mkR (xs ++ [c]) = (mkR xs).set c true := by unfold mkR; rw [List.foldl_append]; rfl
theorem mkR_len : ∀ xs : List Nat, (mkR xs).length = 64 := by
  have : ∀ (xs : List Nat) (rd : List Bool), (xs.foldl (fun rd c => rd.set c true) rd).length = rd.length := by
    intro xs
    induction xs with
    | nil => intro rd; rfl
    | cons x xs ih => intro rd; rw [List.foldl_cons, ih, List.length_set]
  intro xs; unfold mkR; rw [this]; rfl
theorem mkR_is {xs : List Nat} (h : ∀ x ∈ xs, x < 64) (c : Nat) : isR (mkR xs) c = decide (c ∈ xs) := by
  have := (fold_set 64 xs no64 rfl h).2 c
  unfold mkR
  rw [this]
  have e : isR no64 c = false := by
    unfold isR no64
    rw [List.getD_eq_getElem?_getD, List.getElem?_replicate]
    split <;> rfl
  rw [e, Bool.or_false]
theorem take_natI (ns : List Nat) (k : Nat) : (natI ns).take k = natI (ns.take k) := by simp [natI, List.map_take]
set_option maxRecDepth 100000 in
set_option maxHeartbeats 1000000 in
theorem newRaft_c (W H nw cw nk ck : Nat) (aw ak : Option Addr) (v : Value) (ns : List Nat) (w : World) (hr : Reads w v (natI ns)) (hn : ∀ x ∈ ns, x < 64) :
    Calls Tryz.prog 64 #[.agg #[.int .i64 (W : Int), .int .i64 (H : Int), .slice aw nw cw, .slice ak nk ck], v] w fun e w' => ∃ A, e = .returned (.agg A) ∧ IsRaft A W H (.slice aw nw cw) (.slice ak nk ck) (mkR ns) ∧ Ext w w' := by
  obtain ⟨hl, a, cap, rfl⟩ := hr.shape
  rw [natI_len] at hl hr ⊢
  have HC := Lib.hid hr; have HN := Lib.hid hn; clear hr hn
  have hl2 : ns.length ≤ 9223372036854775807 := by omega
  have E0 := Lib.hid (((Ext.refl w).alloc (.cells #[.int .i64 (W : Int), .int .i64 (H : Int), .slice aw nw cw, .slice ak nk ck] 72)).alloc (.cells zR 78))
  have HI := Lib.hid (RaftB.isRaft W H (.slice aw nw cw) (.slice ak nk ck) (rd := no64) rfl).info
  have HO := Lib.hid (RaftB.isRaft W H (.slice aw nw cw) (.slice ak nk ck) (rd := no64) rfl).one
  obtain ⟨A0, hA0⟩ : ∃ A0, A0 = (rc W H (.slice aw nw cw) (.slice ak nk ck) no64).toArray := ⟨_, rfl⟩
  rw [← hA0] at HI HO
  have HA0 := Lib.hid hA0; clear hA0
  have HS := Lib.hid (show zR.size = A0.size from by rw [HA0.out]; rfl)
  go_enter Tryz.func64, Tryz.ntmps64
  go_wp2_with (first
    | (refine wpList_build rfl 78 _ rfl (by kernel_rfl) ?_; rw [show (Tryz.prog.built 78 (Array.map _ _).toList).getD #[] = A0 from HA0.out ▸ by kernel_rfl])
    | (refine wp_newRow rfl rfl 78 5 (.tmp 9) rfl rfl rfl alloc_raft A0 HI.out HS.out HO.out rfl rfl ?_; intro W2 hb2 hE2 hz2; simp only [World.size_alloc] at hb2 hz2; have HB2 := Lib.hid hb2; have HE2 := Lib.hid hE2; have HZ2 := Lib.hid hz2; clear hb2 hE2 hz2)
    | (refine wp_allocRow rfl 78 rfl alloc_raft ?_)
    | fail)
  have HE3 := Lib.hid (E0.out.trans HE2.out)
  have HR0 := Lib.hid (show RaftB W2 (w.heap.size + 1 + 1) W H (.slice aw nw cw) (.slice ak nk ck) (mkR []) from by have h := HB2.out; rw [HA0.out] at h; exact h)
  have HZR := Lib.hid (block_ext HE2.out (heap_alloc_at (w.alloc (.cells #[.int .i64 (W : Int), .int .i64 (H : Int), .slice aw nw cw, .slice ak nk ck] 72)) (.cells zR 78) (n := w.heap.size + 1) (by simp)))
  clear HB2 HE2 HZ2
  go_loopw [12] (fun i wr => ∃ k : Nat, k ≤ ns.length ∧ i = .int .i64 k ∧ Hid (RaftB wr (w.heap.size + 1 + 1) W H (.slice aw nw cw) (.slice ak nk ck) (mkR (ns.take k))) ∧ Hid (wr.heap[w.heap.size + 1]? = some (.cells zR 78 (0, 0))) ∧ Hid (Ext w wr)) (fun i wr => ns.length - (intOf i).toNat)
  case atStart => exact ⟨0, Nat.zero_le _, rfl, HR0, HZR, HE3⟩
  case round =>
    obtain ⟨k, hk, rfl, hR, hZ, hE⟩ := hrel
    by_cases hlt : k < ns.length
    · obtain ⟨b, off, y, rfl, hy, hcy⟩ := (HC.out.ext hE.out).at (show k < (natI ns).length by rw [natI_len]; exact hlt)
      obtain ⟨c, hc⟩ : ∃ c, ns[k]? = some c := ⟨ns[k], List.getElem?_eq_getElem hlt⟩
      have hyc := natI_at hc
      rw [hy] at hyc
      cases hyc
      have hc64 := HN.out c (List.mem_of_getElem? hc)
      have HT := Lib.hid (take_snoc hc)
      have hcl := hR.out.cell (mkR_len _) hc64
      have hfr := frozen_of_blk hR.out (4 + c)
      have h1 : (0 : Int) ≤ (c : Int) := by omega
      have h2 : (c : Int) < 64 := by omega
      have h3 : (c : Int).toNat = c := by omega
      have HS2 := Lib.hid (hR.out.set c true)
      clear hy hc
      generalize isR (mkR (ns.take k)) c = b0 at *
      go_wp2
      go_roundw
      case rel =>
        refine ⟨k + 1, by omega, by go_num, Lib.hid ?_, Lib.hid ((other_blk (grown_set _ _ _ _) (by omega) (lt_of_blk hZ.out)).trans hZ.out), Lib.hid (hE.out.set (by omega) _ _)⟩
        rw [HT.out, mkR_snoc]; exact HS2.out
      case measure => simp [intOf]; omega
    · obtain rfl : k = ns.length := by omega
      have hrb := hR.out
      rw [List.take_of_length_le (Nat.le_refl _)] at hrb
      obtain ⟨A, hA⟩ : ∃ A, A = (rc W H (.slice aw nw cw) (.slice ak nk ck) (mkR ns)).toArray := ⟨_, rfl⟩
      have hIA : IsRaft A W H (.slice aw nw cw) (.slice ak nk ck) (mkR ns) := ⟨hA, mkR_len _⟩
      have HIA := Lib.hid hIA; have HIN := Lib.hid hIA.info; have HON := Lib.hid hIA.one; have HSZ := Lib.hid (show zR.size = A.size from by rw [hIA.size]; rfl)
      have HRB := Lib.hid (show wr.heap[w.heap.size + 1 + 1]? = some (.cells A 78 (0, 0)) from by rw [hA]; exact hrb)
      clear hrb hA hIA
      go_wp2_with (first | (refine wpList_load_row rfl 78 _ rfl _ rfl _ _ _ _ HRB.out Tryz.underlying78 rfl HIN.out ?_) | (refine wpList_store_row rfl 78 _ _ rfl (w.heap.size + 1) A rfl rfl _ _ hZ.out HIN.out HSZ.out HON.out ?_) | fail)
      refine bodyPost_ret (v := .agg A) ?_ rfl ⟨A, rfl, HIA.out, setRow_ext hE.out (by omega) _⟩
      exact results_cell_row (P := Tryz.prog) (fn := Tryz.f64) Tryz.results64 _ _ _ _ _ _ _ rfl (setRow_heap' _ _ _ _ _ hZ.out) Tryz.underlying78 rfl HIN.out
end Go.Proofs.YtppjnpempgpkaaaGreat
