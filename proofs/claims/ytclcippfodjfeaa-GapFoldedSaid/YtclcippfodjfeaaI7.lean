/- Small functions on links and spots. The iterator links: all links of a net. The flow in memory: a map whose keys are links. The iterator steps: the links by which a further pocket can change what flows. -/
import Derived.Test.YtclcippfodjfeaaI3
import Derived.Test.YtclcippfodjfeaaZL
import Derived.Maps.OwnIn
import Derived.Maps.OwnSet
import Derived.Maps.Views
import Derived.Maps.RangeWalk
import Derived.DeepKeys4
import Derived.OrdersIn
namespace Go.Proofs.Ytclcippfodjfeaa
open Go.RowKit Go.Shelf
set_option linter.unusedVariables false
set_option linter.unusedSimpArgs false
attribute [local go_sem] Oper.semAt_some
theorem before74 (i : Nat) (w : World) (hi : i ≤ 100) : Calls Try.prog 74 #[.int .i64 (i : Int)] w fun e w' => e = .returned (.int .i64 (bef i : Int)) ∧ w = w' := by
  have h0 : (0 : Int) ≤ (i : Int) := by omega
  have h1 : (i : Int) ≤ 100 := by omega
  go_enter Try.func74, Try.ntmps74
  go_wp2
  go_ret
  exact ⟨ret_int (by unfold bef; omega), rfl⟩
theorem after76 (i : Nat) (w : World) (hi : i ≤ 100) : Calls Try.prog 76 #[.int .i64 (i : Int)] w fun e w' => e = .returned (.int .i64 (aft i : Int)) ∧ w = w' := by
  have h0 : (0 : Int) ≤ (i : Int) := by omega
  have h1 : (i : Int) ≤ 100 := by omega
  go_enter Try.func76, Try.ntmps76
  go_wp2
  go_ret
  exact ⟨ret_int (by unfold aft; omega), rfl⟩
def lkV (l : Lk) : Value := .agg #[.int .i64 (l.1 : Int), .int .i64 (l.2 : Int)]
theorem turned85 (l : Lk) (w : World) : Calls Try.prog 85 #[.agg #[.int .i64 (l.1 : Int), .int .i64 (l.2 : Int)]] w fun e w' => e = .returned (.agg #[.int .i64 ((turn l).1 : Int), .int .i64 ((turn l).2 : Int)]) ∧ Ext w w' := by
  go_enter Try.func85, Try.ntmps85
  go_wp2
  refine bodyPost_ret (by simp [results, Try.results85, go_sem]; exact ⟨rfl, rfl⟩) rfl ⟨rfl, ((Ext.refl w).alloc _).alloc _⟩
end Go.Proofs.Ytclcippfodjfeaa
namespace Go.Proofs.Ytclcippfodjfeaa
open Go.RowKit Go.Shelf
set_option linter.unusedVariables false
set_option linter.unusedSimpArgs false
attribute [local go_sem] Oper.semAt_some
abbrev LkOf (row : List Int) := { x : Lk × Nat // x ∈ linksL row }
def encL (row : List Int) (x : LkOf row) : Array Value := #[.agg #[.int .i64 (x.1.1.1 : Int), .int .i64 (x.1.1.2 : Int)], .int .i64 (x.1.2 : Int)]
def vL {row : List Int} (ys : List (LkOf row)) : List (Lk × Nat) := ys.map Subtype.val
theorem Keep.drew {rs : List Nat} {c : Nat} {A B : World} (h : Keep rs c A B) : Keep rs c A B.drew := ⟨h.os, h.tape, h.output, h.size, h.block, h.head⟩
theorem Keep.drewL {rs : List Nat} {c : Nat} {A B : World} (h : Keep rs c A B) : Keep rs c A.drew B := ⟨h.os, h.tape, h.output, h.size, h.block, h.head⟩
theorem vL_snoc {row : List Int} (ys : List (LkOf row)) (x : LkOf row) : vL (ys ++ [x]) = vL ys ++ [x.1] := by simp [vL]
theorem vL_len {row : List Int} (ys : List (LkOf row)) : (vL ys).length = ys.length := by simp [vL]
def linksTo (row : List Int) (k : Nat) : List (Lk × Nat) := ((0, 1), 0) :: (List.range k).flatMap (linksOf row)
theorem linksTo_succ (row : List Int) (k : Nat) : linksTo row (k + 1) = linksTo row k ++ linksOf row k := by simp [linksTo, List.range_succ]
theorem linksTo_all (row : List Int) : linksTo row row.length = linksL row := rfl
theorem behind_len (row : List Int) (i : Nat) : (behindL row i).length ≤ row.length := by unfold behindL; exact Nat.le_trans (List.length_filter_le _ _) (by simp)
theorem linksTo_len (row : List Int) (k : Nat) : (linksTo row k).length ≤ 1 + k * (row.length + 3) := by
  induction k with
  | zero => simp [linksTo]
  | succ k ih =>
    have h := behind_len row k
    have e : (linksOf row k).length = (behindL row k).length + 3 := by simp [linksOf]
    have e2 : (k + 1) * (row.length + 3) = k * (row.length + 3) + (row.length + 3) := by rw [Nat.add_mul, Nat.one_mul]
    rw [linksTo_succ, List.length_append, e, e2]
    omega
theorem linksOf_mem {row : List Int} {k : Nat} (hk : k < row.length) {x : Lk × Nat} (hx : x ∈ linksOf row k) : x ∈ linksL row := by
  unfold linksL
  exact List.mem_cons_of_mem _ (List.mem_flatMap.2 ⟨k, List.mem_range.2 hk, hx⟩)
theorem linksL_first (row : List Int) : (((0, 1), 0) : Lk × Nat) ∈ linksL row := by simp [linksL]
theorem linksOf_1 (row : List Int) (k : Nat) : (((0, bef k), 0) : Lk × Nat) ∈ linksOf row k := by simp [linksOf]
theorem linksOf_2 (row : List Int) (k : Nat) : (((bef k, aft k), 1) : Lk × Nat) ∈ linksOf row k := by simp [linksOf]
theorem linksOf_3 (row : List Int) (k : Nat) : (((aft k, 1), 0) : Lk × Nat) ∈ linksOf row k := by simp [linksOf]
theorem linksOf_4 (row : List Int) {k j : Nat} (hj : j < row.length) (h : behB row k j = true) : (((aft k, bef j), 0) : Lk × Nat) ∈ linksOf row k := by
  unfold linksOf
  refine List.mem_cons_of_mem _ (List.mem_cons_of_mem _ (List.mem_cons_of_mem _ (List.mem_map.2 ⟨j, ?_, rfl⟩)))
  unfold behindL; exact List.mem_filter.2 ⟨List.mem_range.2 hj, h⟩
/-- The marks of loops that have ended. -/
def Marks (base : Nat) (ds : List Deferred) (W : World) : Prop :=
  ∃ Ds : List Nat, ds = Ds.map (fun D => { target := .collected D, args := #[] }) ∧ Ds.Nodup ∧ ∀ D ∈ Ds, base ≤ D ∧ W.heap[D]? = some (.deferred (some []))
theorem Marks.nil (base : Nat) (W : World) : Marks base [] W := ⟨[], rfl, List.nodup_nil, fun D h => by cases h⟩
theorem marks_leaveJ {F : Fence} {n : Nat} {P : Program} {fn : Func} {tmps : Array Value} {R : Ending → World → Prop} {base : Nat} (J : World → Prop) (hJ : ∀ W D, J W → base ≤ D → W.heap[D]? = some (.deferred (some [])) → J (W.putObj D (.deferred none))) : ∀ (ds : List Deferred) (u : FrameMode) (W : World), u ≠ .run → J W → Marks base ds W →
    (∀ W', J W' → LeavesInM F n P fn tmps R [] u W') → LeavesInM F n P fn tmps R ds u W
  | [], u, W, hu, hj, hm, h => h W hj
  | d :: ds, u, W, hu, hj, ⟨Ds, e, hnd, hD⟩, h => by
    cases Ds with
    | nil => cases e
    | cons D Ds =>
      cases e
      obtain ⟨h1, h2⟩ := hD D (by simp)
      have hnd' := List.nodup_cons.1 hnd
      refine ⟨hu, .inl ⟨D, _, rfl, run_takeDeferred h2, marks_leaveJ J hJ _ u _ hu (hJ W D hj h1 h2) ⟨Ds, rfl, hnd'.2, fun D' hD' => ?_⟩ h⟩⟩
      obtain ⟨h3, h4⟩ := hD D' (by simp [hD'])
      refine ⟨h3, ?_⟩
      rw [World.putObj_heap_other (fun e => hnd'.1 (by rw [← e]; exact hD'))]
      exact h4
theorem Marks.keep {rs : List Nat} {c base : Nat} {ds : List Deferred} {W W' : World} (h : Marks base ds W) (hk : Keep rs c W W') (hrs : ∀ r ∈ rs, r < base) : Marks base ds W' := by
  obtain ⟨Ds, h1, h2, h3⟩ := h
  exact ⟨Ds, h1, h2, fun D hD => ⟨(h3 D hD).1, hk.blk (fun hm => by have := hrs D hm; have := (h3 D hD).1; omega) (h3 D hD).2⟩⟩
theorem marks_inj : ∀ {a b : List Nat}, a.map (fun D => ({ target := .collected D, args := #[] } : Deferred)) = b.map (fun D => { target := .collected D, args := #[] }) → a = b
  | [], [], _ => rfl
  | [], _ :: _, h => by cases h
  | _ :: _, [], h => by cases h
  | x :: a, y :: b, h => by
    simp only [List.map_cons, List.cons.injEq, Deferred.mk.injEq, Target.collected.injEq, and_true] at h
    rw [h.1, marks_inj h.2]
theorem Marks.cons {base : Nat} {ds : List Deferred} {W W' : World} {D : Nat} (h : Marks base ds W') (h0 : Marks base ds W) (hD : W.heap.size ≤ D) (hb : base ≤ W.heap.size) (hk : W'.heap[D]? = some (.deferred (some []))) :
    Marks base ({ target := .collected D, args := #[] } :: ds) W' := by
  obtain ⟨Ds, rfl, hnd, hDs⟩ := h
  obtain ⟨Ds0, e, _, hDs0⟩ := h0
  have e2 : Ds = Ds0 := marks_inj e
  subst e2
  have hlt : ∀ E ∈ Ds, E < W.heap.size := fun E hE => (Array.getElem?_eq_some_iff.1 (hDs0 E hE).2).1
  refine ⟨D :: Ds, rfl, List.nodup_cons.2 ⟨fun hm => by have := hlt D hm; omega, hnd⟩, fun E hE => ?_⟩
  rcases List.mem_cons.1 hE with rfl | hE
  · exact ⟨by omega, hk⟩
  · exact hDs E hE
def Fr101 (l Bn By n k : Nat) (ds : List Deferred) (A : Act) : Prop :=
  ∃ x3 x4 x5 x6 x7 x8 x9 x10 x11 x12 x13 x16 x17 x18 x19 x20 x21 x22 x23 x24 x25 x26 x27 x28 x29 x30 x31 x32 x33 x34 x35 x36 x37 x38 x39 x40 x41 x42 x43 x44 x45 x46 x47 x48 x49 x50 x51 x52 x53 x54 x55 x56 x57 : Value, A = { tmps := #[.func (.yield l) #[] #[], .pointer (some ⟨Bn, 0, none⟩), .pointer (some ⟨By, 0, none⟩), x3, x4, x5, x6, x7, x8, x9, x10, x11, x12, x13, .int .i64 (n : Int), .int .i64 (k : Int), x16, x17, x18, x19, x20, x21, x22, x23, x24, x25, x26, x27, x28, x29, x30, x31, x32, x33, x34, x35, x36, x37, x38, x39, x40, x41, x42, x43, x44, x45, x46, x47, x48, x49, x50, x51, x52, x53, x54, x55, x56, x57], defers := ds }
theorem Fr101.mk {l Bn By n k : Nat} {ds : List Deferred} {x3 x4 x5 x6 x7 x8 x9 x10 x11 x12 x13 x16 x17 x18 x19 x20 x21 x22 x23 x24 x25 x26 x27 x28 x29 x30 x31 x32 x33 x34 x35 x36 x37 x38 x39 x40 x41 x42 x43 x44 x45 x46 x47 x48 x49 x50 x51 x52 x53 x54 x55 x56 x57 : Value} : Fr101 l Bn By n k ds { tmps := #[.func (.yield l) #[] #[], .pointer (some ⟨Bn, 0, none⟩), .pointer (some ⟨By, 0, none⟩), x3, x4, x5, x6, x7, x8, x9, x10, x11, x12, x13, .int .i64 (n : Int), .int .i64 (k : Int), x16, x17, x18, x19, x20, x21, x22, x23, x24, x25, x26, x27, x28, x29, x30, x31, x32, x33, x34, x35, x36, x37, x38, x39, x40, x41, x42, x43, x44, x45, x46, x47, x48, x49, x50, x51, x52, x53, x54, x55, x56, x57], defers := ds } := ⟨x3, x4, x5, x6, x7, x8, x9, x10, x11, x12, x13, x16, x17, x18, x19, x20, x21, x22, x23, x24, x25, x26, x27, x28, x29, x30, x31, x32, x33, x34, x35, x36, x37, x38, x39, x40, x41, x42, x43, x44, x45, x46, x47, x48, x49, x50, x51, x52, x53, x54, x55, x56, x57, rfl⟩
set_option maxRecDepth 100000 in
set_option maxHeartbeats 4000000 in
theorem links101 (f Bn bn N n cap : Nat) (a : Option Addr) (row : List Int) (rs : List Nat) (w : World) (hf : 5 ≤ f) (hln : n = row.length) (hrd : ∀ X, Keep rs 2 w X → Reads X (.slice a n cap) row) (hn : n ≤ 30) (hN : 2000 ≤ N) (hrs : ∀ r ∈ rs, r < w.heap.size)
    (hB : Boxed w Bn 64 (.pointer (some ⟨bn, 0, none⟩))) (hnB : Bn ∉ rs) (hc : ∀ X, Keep rs 2 w X → X.cell? ⟨bn, 0, none⟩ = some (.slice a n cap)) :
    SeqAny f 101 #[.pointer (some ⟨Bn, 0, none⟩)] (encL row) (Keep rs 2) (fun ys => vL ys = linksL row) N w := by
  intro l J W hW hJ hY hJ0
  have hlen : ∀ k, k ≤ n → ∀ pre : List (LkOf row), (vL pre).length ≤ (linksTo row k).length + 33 → pre.length < N := fun k hk pre h => by
    have h1 := linksTo_len row k
    have h2 : k * (row.length + 3) ≤ 30 * 33 := Nat.mul_le_mul (by omega) (by omega)
    rw [vL_len] at h; omega
  have c1 := Boxed.cell (block_ext hW hB)
  have l1 := hB.lt; have l3 := hW.size
  have HY := Lib.hid hY; have HJ := Lib.hid hJ; have H0 := Lib.hid hJ0; have HRS := Lib.hid hrs; have HC := Lib.hid hc; have HR := Lib.hid hrd; have HLEN := Lib.hid hlen; have HB := Lib.hid hB; have HNB := Lib.hid hnB
  have HLN := Lib.hid hln
  clear hY hJ hJ0 hrs hc hrd hlen hB hnB hln
  refine callsIn_of_wp_marks Try.func101 rfl trivial ?_ rfl
  simp only [Try.ntmps101, List.size_toArray, List.length_cons, List.length_nil, Nat.reduceAdd, Nat.reduceSub, Array.replicate_succ, Array.replicate_zero, List.push_toArray, List.append_toArray, List.nil_append, List.cons_append]
  have hE1 : Ext W (W.alloc (.cells #[.func (.yield l) #[] #[]] 110)) := (Ext.refl W).alloc _
  have hy1 : Boxed (W.alloc (.cells #[.func (.yield l) #[] #[]] 110)) W.heap.size 110 (.func (.yield l) #[] #[]) := Boxed.new W 110 _
  have hz1 : (W.alloc (.cells #[.func (.yield l) #[] #[]] 110)).heap.size = W.heap.size + 1 := by simp
  have c1 := cell_ext hE1 c1
  have HJ1 := Lib.hid (abides HJ.out H0.out hE1)
  obtain ⟨fn, tmps, assign, body, hyy, hR⟩ := HY.out [] ⟨((0, 1), 0), linksL_first row⟩ _ HJ1.out (by simp; omega)
  have HR1 := Lib.hid hR; clear hR
  simp only [encL, Int.natCast_zero, Int.natCast_one] at hyy
  generalize hW1 : W.alloc (.cells #[.func (.yield l) #[] #[]] 110) = W1 at *
  have cy1 := hy1.cell
  gi_wp2_with fail
  refine ⟨fun h => (by cases h), ?_⟩
  refine HR1.out.mono ?_
  rintro e w2 ⟨rfl, hJ2, hK2⟩
  have nin : ∀ g, w.heap.size ≤ g → g ∉ rs := fun g hg hm => by have := HRS.out g hm; omega
  have c12 := hK2.cell HNB.out c1
  have hkw : ∀ X, Keep rs 2 W1 X → Keep rs 2 w X := fun X h => (Keep.ext (Below.trans hW (hE1.mono hW.size))).trans h
  have cn2 := HC.out w2 (hkw w2 hK2)
  have HNIN := Lib.hid nin; have HKW := Lib.hid hkw; have HJ2 := Lib.hid hJ2; have HK2 := Lib.hid hK2
  have C1 := Lib.hid c1; have HY1 := Lib.hid hy1
  have hl3 : n ≤ 9223372036854775807 := by omega
  clear hyy HR1 nin hkw hJ2 hK2 hW1 c1 hy1 cy1
  gi_wp2
  refine wpIn_loop (fun A wr => ∃ (pre : List (LkOf row)) (k : Nat) (ds : List Deferred), k ≤ n ∧ Fr101 l Bn W.heap.size n k ds A ∧ Hid (vL pre = linksTo row k) ∧ Hid (J pre wr) ∧ Hid (Keep rs 2 W1 wr) ∧ Hid (Marks W1.heap.size ds wr))
    (fun A wr => n - (intOf (A.tmps.getD 15 undef)).toNat) ?start ?round
  case start => exact ⟨[] ++ [⟨((0, 1), 0), linksL_first row⟩], 0, [], Nat.zero_le _, Fr101.mk, Lib.hid (by simp [vL, linksTo]), HJ2, HK2, Lib.hid (Marks.nil _ _)⟩
  case round =>
    rintro A wr ⟨pre, k, ds, hk, ⟨x3, x4, x5, x6, x7, x8, x9, x10, x11, x12, x13, x16, x17, x18, x19, x20, x21, x22, x23, x24, x25, x26, x27, x28, x29, x30, x31, x32, x33, x34, x35, x36, x37, x38, x39, x40, x41, x42, x43, x44, x45, x46, x47, x48, x49, x50, x51, x52, x53, x54, x55, x56, x57, rfl⟩, hpv, hJw, hKw, hMk⟩
    obtain ⟨wk, rfl⟩ : ∃ wk : World, wk = wr := ⟨_, rfl⟩
    by_cases hlt : k < n
    · have hkl : k < row.length := by rw [← HLN.out]; exact hlt
      have m1 := linksOf_mem hkl (linksOf_1 row k)
      have m2 := linksOf_mem hkl (linksOf_2 row k)
      have m3 := linksOf_mem hkl (linksOf_3 row k)
      have M1 := Lib.hid m1; have M2 := Lib.hid m2; have M3 := Lib.hid m3
      have hka : (0 : Int) ≤ (k : Int) := by omega
      have hkb : (k : Int) < (n : Int) := by omega
      have hk100 : k ≤ 100 := by omega
      obtain ⟨wl, hwl⟩ : ∃ wl, wl = wk.alloc (.cells #[.int .i64 (k : Int)] 3) := ⟨_, rfl⟩
      have hEl : Ext wk wl := by rw [hwl]; exact (Ext.refl wk).alloc _
      have hbl : Boxed wl wk.heap.size 3 (.int .i64 (k : Int)) := by rw [hwl]; exact Boxed.new wk 3 _
      have hKl := hKw.out.trans (Keep.ext hEl)
      have d1 := hKl.cell (HNIN.out _ (by omega)) HY1.out.cell
      have d2 := hbl.cell
      have d3 := hKl.cell HNB.out C1.out
      have d4 := HC.out wl (HKW.out wl hKl)
      have HKL := Lib.hid hKl; have HWL := Lib.hid hwl; have HBL := Lib.hid hbl
      have HJL := Lib.hid (abides HJ.out hJw.out hEl)
      have hszk : w.heap.size ≤ wk.heap.size := by have := hKw.out.size; omega
      clear m1 m2 m3 hwl hKl hbl hkl
      have NY := HNIN.out W.heap.size (by omega)
      have NL := HNIN.out wk.heap.size hszk
      have NY := Lib.hid NY; have NL := Lib.hid NL
      have HJD := Lib.hid (abides HJ.out HJL.out ((Ext.refl wl).drew))
      gi_wp2
      rw [← HWL.out]
      refine wpIn_order (tk := takeB) (fun f => trivial) (fun X : World => X.cell? ⟨W.heap.size, 0, none⟩ = some (.func (.yield l) #[] #[]) ∧ X.cell? ⟨wk.heap.size, 0, none⟩ = some (.int .i64 (k : Int)) ∧ Hid (Keep rs 2 wl X)) [0, 1, 2, 3, 4, 5, 6, 7, 8, 10, 9, 11, 12, 13, 14, 15, 16, 17, 18, 19, 20, 21, 22, 23] (by kernel_rfl) (by kernel_rfl) (by kernel_rfl) (by exact ⟨d1, d2, Lib.hid (Keep.refl _ _ _).drew⟩) (fun hHeld => ?_)
      simp only [opsIn, List.filterMap_cons, List.filterMap_nil, List.getElem?_toArray, List.getElem?_cons_succ, List.getElem?_cons_zero]
      refine' textI_chunk 2 (by kernel_rfl) hHeld ?ck1 ?cr1
      case ck1 =>
        intro W hSw
        have hSW := hSw
        try dsimp only at hSW
        clear hSw
        simp only [List.take_succ_cons, List.take_zero, List.drop_succ_cons, List.drop_zero]
        repeat (go_big_quiet_step (fail))
        exact wpQuiet_nil rfl
      simp only [List.take_succ_cons, List.take_zero, List.drop_succ_cons, List.drop_zero]
      refine textI_call (by rfl) (by rfl) (fun K hK => ?_)
      go_simp
      refine ⟨trivial, fun h => (by cases h), (callsIn_wide.2 (before74 k _ hk100)).mono ?_⟩
      rintro e w5 ⟨rfl, rfl⟩
      all_goals (try (gi_wp2_with fail))
      refine hK.out _ _ (by exact hHeld) (fun hHeld => ?_)
      clear hK K
      try simp only [Act.put, List.setIfInBounds_toArray, List.set_cons_zero, List.set_cons_succ]
      refine' textI_chunk 1 (by kernel_rfl) hHeld ?ck2 ?cr2
      case ck2 =>
        intro W hSw
        have hSW := hSw
        try dsimp only at hSW
        clear hSw
        simp only [List.take_succ_cons, List.take_zero, List.drop_succ_cons, List.drop_zero]
        repeat (go_big_quiet_step (fail))
        exact wpQuiet_nil rfl
      simp only [List.take_succ_cons, List.take_zero, List.drop_succ_cons, List.drop_zero]
      obtain ⟨fn, tmps, assign, body, hyy, hR⟩ := HY.out pre ⟨((0, bef k), 0), M1.out⟩ wl.drew HJD.out (HLEN.out k (by omega) _ (by rw [hpv.out]; omega))
      have HR := Lib.hid hR; clear hR
      simp only [encL, Int.natCast_zero, Int.natCast_one] at hyy
      refine textI_call (by rfl) (by rfl) (fun K hK => ?_)
      go_simp
      refine ⟨fun h => (by cases h), ?_⟩
      refine RoundIn.mono HR.out ?_
      rintro e v1 ⟨rfl, hJn, hKn⟩
      have HJ1 := Lib.hid hJn; have HK1 := Lib.hid hKn
      clear hyy HR
      all_goals (try (gi_wp2_with fail))
      refine hK.out _ _ (by exact ⟨hKn.cell NY.out hHeld.1, hKn.cell NL.out hHeld.2.1, Lib.hid (hHeld.2.2.out.trans hKn)⟩) (fun hHeld => ?_)
      clear hK K fn tmps assign body
      try simp only [Act.put, List.setIfInBounds_toArray, List.set_cons_zero, List.set_cons_succ]
      refine' textI_chunk 5 (by kernel_rfl) hHeld ?ck3 ?cr3
      case ck3 =>
        intro W hSw
        have hSW := hSw
        try dsimp only at hSW
        clear hSw
        simp only [List.take_succ_cons, List.take_zero, List.drop_succ_cons, List.drop_zero]
        repeat (go_big_quiet_step (fail))
        exact wpQuiet_nil rfl
      simp only [List.take_succ_cons, List.take_zero, List.drop_succ_cons, List.drop_zero]
      refine textI_call (by rfl) (by rfl) (fun K hK => ?_)
      go_simp
      refine ⟨trivial, fun h => (by cases h), (callsIn_wide.2 (before74 k _ hk100)).mono ?_⟩
      rintro e w5 ⟨rfl, rfl⟩
      all_goals (try (gi_wp2_with fail))
      refine hK.out _ _ (by exact hHeld) (fun hHeld => ?_)
      clear hK K
      try simp only [Act.put, List.setIfInBounds_toArray, List.set_cons_zero, List.set_cons_succ]
      refine textI_call (by rfl) (by rfl) (fun K hK => ?_)
      go_simp
      refine ⟨trivial, fun h => (by cases h), (callsIn_wide.2 (after76 k _ hk100)).mono ?_⟩
      rintro e w5 ⟨rfl, rfl⟩
      all_goals (try (gi_wp2_with fail))
      refine hK.out _ _ (by exact hHeld) (fun hHeld => ?_)
      clear hK K
      try simp only [Act.put, List.setIfInBounds_toArray, List.set_cons_zero, List.set_cons_succ]
      refine' textI_chunk 1 (by kernel_rfl) hHeld ?ck4 ?cr4
      case ck4 =>
        intro W hSw
        have hSW := hSw
        try dsimp only at hSW
        clear hSw
        simp only [List.take_succ_cons, List.take_zero, List.drop_succ_cons, List.drop_zero]
        repeat (go_big_quiet_step (fail))
        exact wpQuiet_nil rfl
      simp only [List.take_succ_cons, List.take_zero, List.drop_succ_cons, List.drop_zero]
      obtain ⟨fn, tmps, assign, body, hyy, hR⟩ := HY.out _ ⟨((bef k, aft k), 1), M2.out⟩ v1 HJ1.out (HLEN.out k (by omega) _ (by rw [vL_snoc, List.length_append, hpv.out]; simp))
      have HR := Lib.hid hR; clear hR
      simp only [encL, Int.natCast_zero, Int.natCast_one] at hyy
      refine textI_call (by rfl) (by rfl) (fun K hK => ?_)
      go_simp
      refine ⟨fun h => (by cases h), ?_⟩
      refine RoundIn.mono HR.out ?_
      rintro e v2 ⟨rfl, hJn, hKn⟩
      have HJ2 := Lib.hid hJn; have HK2 := Lib.hid hKn
      clear hyy HR
      all_goals (try (gi_wp2_with fail))
      refine hK.out _ _ (by exact ⟨hKn.cell NY.out hHeld.1, hKn.cell NL.out hHeld.2.1, Lib.hid (hHeld.2.2.out.trans hKn)⟩) (fun hHeld => ?_)
      clear hK K fn tmps assign body
      try simp only [Act.put, List.setIfInBounds_toArray, List.set_cons_zero, List.set_cons_succ]
      refine' textI_chunk 5 (by kernel_rfl) hHeld ?ck5 ?cr5
      case ck5 =>
        intro W hSw
        have hSW := hSw
        try dsimp only at hSW
        clear hSw
        simp only [List.take_succ_cons, List.take_zero, List.drop_succ_cons, List.drop_zero]
        repeat (go_big_quiet_step (fail))
        exact wpQuiet_nil rfl
      simp only [List.take_succ_cons, List.take_zero, List.drop_succ_cons, List.drop_zero]
      refine textI_call (by rfl) (by rfl) (fun K hK => ?_)
      go_simp
      refine ⟨trivial, fun h => (by cases h), (callsIn_wide.2 (after76 k _ hk100)).mono ?_⟩
      rintro e w5 ⟨rfl, rfl⟩
      all_goals (try (gi_wp2_with fail))
      refine hK.out _ _ (by exact hHeld) (fun hHeld => ?_)
      clear hK K
      try simp only [Act.put, List.setIfInBounds_toArray, List.set_cons_zero, List.set_cons_succ]
      refine' textI_chunk 1 (by kernel_rfl) hHeld ?ck6 ?cr6
      case ck6 =>
        intro W hSw
        have hSW := hSw
        try dsimp only at hSW
        clear hSw
        simp only [List.take_succ_cons, List.take_zero, List.drop_succ_cons, List.drop_zero]
        repeat (go_big_quiet_step (fail))
        exact wpQuiet_nil rfl
      simp only [List.take_succ_cons, List.take_zero, List.drop_succ_cons, List.drop_zero]
      obtain ⟨fn, tmps, assign, body, hyy, hR⟩ := HY.out _ ⟨((aft k, 1), 0), M3.out⟩ v2 HJ2.out (HLEN.out k (by omega) _ (by rw [vL_snoc, vL_snoc, List.length_append, List.length_append, hpv.out]; simp))
      have HR := Lib.hid hR; clear hR
      simp only [encL, Int.natCast_zero, Int.natCast_one] at hyy
      refine textI_call (by rfl) (by rfl) (fun K hK => ?_)
      go_simp
      refine ⟨fun h => (by cases h), ?_⟩
      refine RoundIn.mono HR.out ?_
      rintro e v3 ⟨rfl, hJn, hKn⟩
      have HJ3 := Lib.hid hJn; have HK3 := Lib.hid hKn
      clear hyy HR
      all_goals (try (gi_wp2_with fail))
      refine hK.out _ _ (by exact ⟨hKn.cell NY.out hHeld.1, hKn.cell NL.out hHeld.2.1, Lib.hid (hHeld.2.2.out.trans hKn)⟩) (fun hHeld => ?_)
      clear hK K fn tmps assign body
      try simp only [Act.put, List.setIfInBounds_toArray, List.set_cons_zero, List.set_cons_succ]
      refine' textI_chunk 2 (by kernel_rfl) hHeld ?ck7 ?cr7
      case ck7 =>
        intro W hSw
        have hSW := hSw
        try dsimp only at hSW
        clear hSw
        simp only [List.take_succ_cons, List.take_zero, List.drop_succ_cons, List.drop_zero]
        repeat (go_big_quiet_step (fail))
        exact wpQuiet_nil rfl
      simp only [List.take_succ_cons, List.take_zero, List.drop_succ_cons, List.drop_zero]
      refine textI_done ?_
      have hK3 := HKL.out.trans hHeld.2.2.out
      have HK3W := Lib.hid hK3
      have HKV := Lib.hid hHeld.2.2.out
      have e1 := hHeld.2.1
      have e2 := hK3.cell HNB.out C1.out
      have e3 := HC.out v3 (HKW.out v3 hK3)
      clear hHeld hK3 d1 d2 d3 d4 hEl
      gi_wp2
      refine wpIn_order (tk := takeB) (fun f => trivial) (fun X : World => X.cell? ⟨wk.heap.size, 0, none⟩ = some (.int .i64 (k : Int)) ∧ X.cell? ⟨Bn, 0, none⟩ = some (.pointer (some ⟨bn, 0, none⟩)) ∧ X.cell? ⟨bn, 0, none⟩ = some (.slice a n cap) ∧ Hid (Ext v3 X)) [0, 1, 2, 3, 4, 5] (by kernel_rfl) (by kernel_rfl) (by kernel_rfl) (by exact ⟨e1, e2, e3, Lib.hid (Ext.refl _).drew⟩) (fun hHeld => ?_)
      simp only [opsIn, List.filterMap_cons, List.filterMap_nil, List.getElem?_toArray, List.getElem?_cons_succ, List.getElem?_cons_zero]
      refine' textI_chunk 5 (by kernel_rfl) hHeld ?ck8 ?cr8
      case ck8 =>
        intro W hSw
        have hSW := hSw
        try dsimp only at hSW
        clear hSw
        simp only [List.take_succ_cons, List.take_zero, List.drop_succ_cons, List.drop_zero]
        repeat (go_big_quiet_step (fail))
        exact wpQuiet_nil rfl
      simp only [List.take_succ_cons, List.take_zero, List.drop_succ_cons, List.drop_zero]
      refine textI_call (by rfl) (by rfl) (fun K hK => ?_)
      go_simp
      refine ⟨trivial, fun h => (by cases h), (callsIn_wide.2 (behind75 a n cap (k : Int) _)).mono ?_⟩
      rintro e w5 ⟨rfl, rfl⟩
      all_goals (try (gi_wp2_with fail))
      refine hK.out _ _ (by exact ⟨cell_ext (behW_ext _ _ _) hHeld.1, cell_ext (behW_ext _ _ _) hHeld.2.1, cell_ext (behW_ext _ _ _) hHeld.2.2.1, Lib.hid (hHeld.2.2.2.out.trans (behW_ext _ _ _))⟩) (fun hHeld => ?_)
      clear hK K
      try simp only [Act.put, List.setIfInBounds_toArray, List.set_cons_zero, List.set_cons_succ]
      refine textI_done ?_
      have HBE := Lib.hid hHeld.2.2.2.out
      have hszv : wk.heap.size < v3.heap.size := lt_of_cell e1
      have hbw : Boxed (behW v3.drew (.slice a n cap) (k : Int)) wk.heap.size 3 (.int .i64 (k : Int)) := (HKV.out.blk NL.out HBL.out) |> fun h => block_ext hHeld.2.2.2.out h
      have HBW := Lib.hid hbw
      have HSEQ := Lib.hid (behind_seq (f - 1) n n cap k a row rs 2 v3.drew (by omega) HLN.out (Nat.le_refl _) hlt (by omega) (fun X hX => HR.out X (HKW.out X (HK3W.out.drew.trans hX))) (fun r hr => by have := HRS.out r hr; have := HK3W.out.size; simp; omega))
      clear hHeld hbw e1 e2 e3
      gi_wp2
      obtain ⟨W5, hW5⟩ : ∃ W5, W5 = behW v3.drew (.slice a n cap) (k : Int) := ⟨_, rfl⟩
      rw [← hW5] at HBE HBW HSEQ ⊢
      have hszv2 : v3.drew.heap.size = v3.heap.size := rfl
      have hsz5 : W5.heap.size = v3.heap.size + 5 := by rw [hW5, behW_size, hszv2]
      have HJ5 := Lib.hid (abides HJ.out HJ3.out HBE.out)
      have HKW5 := Lib.hid (HK3W.out.trans (Keep.ext HBE.out))
      obtain ⟨p3, hv3, hJ3'⟩ : ∃ p3 : List (LkOf row), vL p3 = linksTo row k ++ [((0, bef k), 0), ((bef k, aft k), 1), ((aft k, 1), 0)] ∧ J p3 W5 := ⟨_, by rw [vL_snoc, vL_snoc, vL_snoc, hpv.out]; simp, HJ5.out⟩
      have HV3 := Lib.hid hv3; have HJ3P := Lib.hid hJ3'
      clear hv3 hJ3'
      let toL : Sub (fun x => x < n ∧ behB row k x = true) → LkOf row := fun x => ⟨((aft k, bef x.1), 0), linksOf_mem (by rw [← HLN.out]; exact hlt) (linksOf_4 row (by rw [← HLN.out]; exact x.2.1) x.2.2)⟩
      clear hW5 hpv hJw
      refine wp_seqAny1 (by omega) (gf := 94) (encs := encF fun x => x < n ∧ behB row k x = true) (ps := #[48]) (rs := rs) (c := 2) rfl (enters_of Try.func94 (by kernel_rfl) rfl) HSEQ.out (Below.refl _ _) (fun _ => rfl) (fun r hr => by have := HRS.out r hr; have := HK3W.out.size; omega)
        (fun p2 X => J (p3 ++ p2.map toL) X ∧ Keep rs 2 W5 X) ?hI ⟨by simpa using HJ3P.out, Keep.refl _ _ _⟩ ?af ?assign ?body ?done
      case hI => exact OwnFrom.and (fun s A B row hs hg hr => HJ.out _ A B row hs hg (fun r e => ⟨by have := (hr r e).1; have := HK3W.out.size; omega, (hr r e).2⟩)) (ownFrom_keep (Nat.le_refl _) (fun r hr => by have := HRS.out r hr; have := HK3W.out.size; omega))
      case assign =>
        rintro l2 x X K hK
        dsimp only [encF]
        gi_wp2
        exact hK
      case body =>
        rintro l2 p2 x X8 hl2 ⟨hJX, hKX⟩ hlt2
        obtain ⟨x, hxx⟩ := x
        have q1 := (HKW5.out.trans hKX).cell NY.out HY1.out.cell
        have q2 := hKX.cell NL.out HBW.out.cell
        have hx100 : x ≤ 100 := by have := hxx.1; omega
        have hl8 : (p3 ++ p2.map toL).length < N := HLEN.out k (by omega) _ (by
          rw [vL, List.map_append, List.length_append, show p3.map Subtype.val = vL p3 from rfl, HV3.out]
          simp; omega)
        have HJX := Lib.hid (abides HJ.out hJX ((Ext.refl X8).drew)); have HKX := Lib.hid hKX
        clear hJX hKX
        try dsimp only
        gi_wp2
        refine wpIn_order (tk := takeB) (fun f => trivial) (fun X : World => X.cell? ⟨W.heap.size, 0, none⟩ = some (.func (.yield l) #[] #[]) ∧ X.cell? ⟨wk.heap.size, 0, none⟩ = some (.int .i64 (k : Int)) ∧ Hid (Keep rs 2 X8 X)) [0, 1, 3, 2, 4, 5, 6, 7] (by kernel_rfl) (by kernel_rfl) (by kernel_rfl) (by exact ⟨q1, q2, Lib.hid (Keep.refl _ _ _).drew⟩) (fun hHeld => ?_)
        simp only [opsIn, List.filterMap_cons, List.filterMap_nil, List.getElem?_toArray, List.getElem?_cons_succ, List.getElem?_cons_zero]
        refine' textI_chunk 3 (by kernel_rfl) hHeld ?ck9 ?cr9
        case ck9 =>
          intro W hSw
          have hSW := hSw
          try dsimp only at hSW
          clear hSw
          simp only [List.take_succ_cons, List.take_zero, List.drop_succ_cons, List.drop_zero]
          repeat (go_big_quiet_step (fail))
          exact wpQuiet_nil rfl
        simp only [List.take_succ_cons, List.take_zero, List.drop_succ_cons, List.drop_zero]
        refine textI_call (by rfl) (by rfl) (fun K hK => ?_)
        go_simp
        refine ⟨trivial, fun h => (by cases h), (CallsIn.inRound l2 (callsIn_wide.2 (after76 k _ hk100))).mono ?_⟩
        rintro e w5 ⟨rfl, rfl⟩
        all_goals (try (gi_wp2_with fail))
        refine hK.out _ _ (by exact hHeld) (fun hHeld => ?_)
        clear hK K
        try simp only [Act.put, List.setIfInBounds_toArray, List.set_cons_zero, List.set_cons_succ]
        refine textI_call (by rfl) (by rfl) (fun K hK => ?_)
        go_simp
        refine ⟨trivial, fun h => (by cases h), (CallsIn.inRound l2 (callsIn_wide.2 (before74 x _ hx100))).mono ?_⟩
        rintro e w5 ⟨rfl, rfl⟩
        all_goals (try (gi_wp2_with fail))
        refine hK.out _ _ (by exact hHeld) (fun hHeld => ?_)
        clear hK K
        try simp only [Act.put, List.setIfInBounds_toArray, List.set_cons_zero, List.set_cons_succ]
        refine' textI_chunk 1 (by kernel_rfl) hHeld ?ck10 ?cr10
        case ck10 =>
          intro W hSw
          have hSW := hSw
          try dsimp only at hSW
          clear hSw
          simp only [List.take_succ_cons, List.take_zero, List.drop_succ_cons, List.drop_zero]
          repeat (go_big_quiet_step (fail))
          exact wpQuiet_nil rfl
        simp only [List.take_succ_cons, List.take_zero, List.drop_succ_cons, List.drop_zero]
        obtain ⟨fn, tmps, assign, body, hyy, hR⟩ := HY.out _ (toL ⟨x, hxx⟩) X8.drew HJX.out hl8
        have HR := Lib.hid (RoundIn.any (m' := f - 1 - 1 - 1) (l0 := l2) hR); clear hR
        simp only [encL, toL, Int.natCast_zero, Int.natCast_one] at hyy
        refine textI_call (by rfl) (by rfl) (fun K hK => ?_)
        go_simp
        refine ⟨fun h => (by cases h), ?_⟩
        refine RoundIn.mono HR.out ?_
        rintro e v8 ⟨rfl, hJn, hKn⟩
        have HJ8 := Lib.hid hJn; have HK8 := Lib.hid hKn
        clear hyy HR
        all_goals (try (gi_wp2_with fail))
        refine hK.out _ _ (by exact ⟨hKn.cell NY.out hHeld.1, hKn.cell NL.out hHeld.2.1, Lib.hid (hHeld.2.2.out.trans hKn)⟩) (fun hHeld => ?_)
        clear hK K fn tmps assign body
        try simp only [Act.put, List.setIfInBounds_toArray, List.set_cons_zero, List.set_cons_succ]
        refine' textI_chunk 1 (by kernel_rfl) hHeld ?ck11 ?cr11
        case ck11 =>
          intro W hSw
          have hSW := hSw
          try dsimp only at hSW
          clear hSw
          simp only [List.take_succ_cons, List.take_zero, List.drop_succ_cons, List.drop_zero]
          repeat (go_big_quiet_step (fail))
          exact wpQuiet_nil rfl
        simp only [List.take_succ_cons, List.take_zero, List.drop_succ_cons, List.drop_zero]
        refine textI_done ?_
        have HF8 := Lib.hid hHeld.2.2.out
        clear hHeld
        gi_wp2
        refine ⟨HF8.out, by rw [List.map_append, ← List.append_assoc]; exact HJ8.out, HKX.out.trans HF8.out⟩
      case done =>
        rintro D ys X hD hS ⟨hJX, hKX⟩ hDW
        have hvn : vL (p3 ++ ys.map toL) = linksTo row (k + 1) := by
          rw [linksTo_succ, vL, List.map_append, show p3.map Subtype.val = vL p3 from rfl, HV3.out, List.append_assoc]
          congr 1
          rw [List.map_map]
          have : ys.map (Subtype.val ∘ toL) = (vF ys).map fun j => ((aft k, bef j), 0) := by unfold vF; rw [List.map_map]; rfl
          rw [this, hS]; rfl
        have hM5 := hMk.out.keep (HKL.out |> fun _ => (Keep.ext (rs := rs) (c := 2) (by rw [HWL.out]; exact (Ext.refl wk).alloc _ : Ext wk wl)).trans (HKV.out.trans (Keep.ext HBE.out))) (fun r hr => by have := HRS.out r hr; omega)
        have hM6 := Marks.cons (hM5.keep hKX (fun r hr => by have := HRS.out r hr; omega)) hM5 hD (by have := HKW5.out.size; omega) hDW
        have HVN := Lib.hid hvn; have HJN := Lib.hid hJX; have HKN := Lib.hid (HKW5.out.trans hKX); have HM6 := Lib.hid hM6
        clear hvn hM5 hM6 hJX hKX hDW hS
        gi_wp2
        refine ⟨⟨_, k + 1, _, by omega, Fr101.mk, HVN, HJN, HKN, HM6⟩, ?_⟩
        simp [intOf]; omega
    · obtain rfl : k = n := by omega
      have HF := Lib.hid (show vL pre = linksL row by rw [hpv.out, HLN.out]; rfl)
      gi_wp2
      refine marks_leaveJ (fun X => J pre X) (fun X D hj hD hd => HJ.out.putObj _ hj (by omega) hd rfl) _ _ _ (by simp) hJw.out hMk.out (fun W' hj' => ?_)
      exact ⟨_, results_none rfl _ _ _, ⟨_, rfl⟩, _, HF.out, hj'⟩
end Go.Proofs.Ytclcippfodjfeaa
namespace Go.Proofs.Ytclcippfodjfeaa
open Go.RowKit Go.Maps
set_option linter.unusedVariables false
set_option linter.unusedSimpArgs false
theorem laidOut : laidOutB Try.prog = true := by kernel_rfl
theorem keyLaw77 : WideMaps.KeyLaw Try.prog 77 := deep_law_laid laidOut (m := 3) (by omega) (of_decide_eq_true (by kernel_rfl)) (by kernel_rfl) (by kernel_rfl)
theorem keyed77 : Keyed Try.prog 77 := Keyed.of_law keyLaw77
def ks (l : Lk) : Lit := .string (keyBytes [.int .i64 (l.1 : Int), .int .i64 (l.2 : Int)])
def kv (l : Lk) : Value := .agg #[.int .i64 (l.1 : Int), .int .i64 (l.2 : Int)]
def Sm (l : Lk) : Prop := l.1 < 1000 ∧ l.2 < 1000
theorem wf_small (n : Nat) (h : n < 1000000) : (Lit.int .i64 (n : Int)).wf = true := WalkArith.wf_i64 (by omega)
theorem keyType77 : Try.prog.keyType 77 = true := by kernel_rfl
theorem cells3' : Try.prog.cellsOf 3 = 1 := by kernel_rfl
theorem cells77 : Try.prog.cellsOf 77 = 2 := by kernel_rfl
theorem ks_eq (l : Lk) (h : Sm l) : keyOf Try.prog 77 (kv l) = some (ks l) := by
  obtain ⟨i, j⟩ := l
  have h1 := wf_small i (by have := h.1; simp at this; omega)
  have h2 := wf_small j (by have := h.2; simp at this; omega)
  obtain ⟨N, hN⟩ : ∃ N, N + 1 = Try.prog.types.size := ⟨Try.prog.types.size - 1, by kernel_rfl⟩
  unfold keyOf kv
  rw [← hN]
  simp [Try.underlying77, Try.underlying3, keyType77, Value.formed, cells77, Program.keyLits, Value.cells, cells3', h1, h2, ks]
theorem ks_inj {l m : Lk} (hl : Sm l) (hm : Sm m) (h : ks l = ks m) : l = m := by
  have h1 := ks_eq l hl
  have h2 := ks_eq m hm
  rw [h] at h1
  have := keyed77.inj h1 h2
  simp [kv] at this
  exact Prod.ext (by omega) (by omega)
theorem ks_key (l : Lk) : WideAt.IsKeyLit (ks l) := trivial
/-- How an element reads: as it is. -/
def RH (v : Value) : Option (DataW Value × List MemPlace) := some (.held v, [])
def FIs (D : DataW Value) (F : List Lk) : Prop := IsMap D ∧ (∀ l, Sm l → has D (ks l) = inF F l ∧ (inF F l = true → ∀ z, D.atKey (ks l) z = .held (.bool true))) ∧ ∀ l ∈ F, Sm l
theorem FIs.empty : FIs (.map []) [] := ⟨isMap_empty, fun l _ => ⟨rfl, fun h => by cases h⟩, fun l h => by cases h⟩
theorem inF_cons (F : List Lk) (l m : Lk) : inF (l :: F) m = (decide (m = l) || inF F m) := by
  unfold inF
  rw [List.any_cons]
  congr 1
  rw [Bool.eq_iff_iff]
  simp
  constructor
  · rintro ⟨h1, h2⟩; exact (Prod.ext h1 h2).symm
  · rintro rfl; exact ⟨rfl, rfl⟩
theorem inF_filter (F : List Lk) (l m : Lk) : inF (F.filter fun x => !(x.1 == l.1 && x.2 == l.2)) m = (!decide (m = l) && inF F m) := by
  rw [Bool.eq_iff_iff, Bool.and_eq_true, inF_iff, inF_iff, List.mem_filter]
  simp
  constructor
  · rintro ⟨h1, h2⟩; exact ⟨fun e => by subst e; simp at h2, h1⟩
  · rintro ⟨h1, h2⟩
    refine ⟨h2, ?_⟩
    by_cases a : m.1 = l.1
    · exact .inr fun b => h1 (Prod.ext a b)
    · exact .inl a
theorem FIs.put {D : DataW Value} {F : List Lk} (h : FIs D F) {l : Lk} (hl : Sm l) : FIs (D.put (ks l) (.held (.bool true))) (l :: F) := by
  refine ⟨h.1.put _ _, fun m hm => ?_, fun x hx => by rcases List.mem_cons.1 hx with rfl | hx; exact hl; exact h.2.2 x hx⟩
  rw [inF_cons]
  by_cases q : m = l
  · subst q
    refine ⟨by rw [has_put_same h.1 (ks_key _) _]; simp, fun _ z => atKey_put_same h.1 (ks_key _) _ _⟩
  · have hne : ks m ≠ ks l := fun hh => q (ks_inj hm hl hh)
    rw [has_put_other hne, decide_eq_false q, Bool.false_or]
    exact ⟨(h.2.1 m hm).1, fun ht z => by rw [atKey_put_other hne]; exact (h.2.1 m hm).2 ht z⟩
theorem FIs.del {D : DataW Value} {F : List Lk} (h : FIs D F) {l : Lk} (hl : Sm l) : FIs (D.del (ks l)) (F.filter fun x => !(x.1 == l.1 && x.2 == l.2)) := by
  refine ⟨h.1.del _, fun m hm => ?_, fun x hx => h.2.2 x (List.mem_filter.1 hx).1⟩
  rw [inF_filter]
  by_cases q : m = l
  · subst q
    refine ⟨by rw [has_del_same]; simp, fun ht => by simp at ht⟩
  · have hne : ks m ≠ ks l := fun hh => q (ks_inj hm hl hh)
    rw [has_del_other hne, decide_eq_false q, Bool.not_false, Bool.true_and]
    exact ⟨(h.2.1 m hm).1, fun ht z => by rw [atKey_del_other hne]; exact (h.2.1 m hm).2 ht z⟩
/-- A flow of the net's own. -/
def FMap (W : World) (b n : Nat) (F : List Lk) : Prop := ∃ D, W.ownsMap Try.prog 77 RH b n D ∧ FIs D F
theorem FMap.lt {W : World} {b n : Nat} {F : List Lk} (h : FMap W b n F) : b < W.heap.size := let ⟨_, h1, _⟩ := h; h1.lt
theorem FMap.made (w : World) : FMap (w.alloc (.map #[] 0)) w.heap.size 0 [] := ⟨_, World.ownsMap_made _ _ _ _, FIs.empty⟩
theorem FMap.more {W : World} {b n n' : Nat} {F : List Lk} (h : FMap W b n F) (hn : n ≤ n') : FMap W b n' F := let ⟨D, h1, h2⟩ := h; ⟨D, h1.mono hn, h2⟩
theorem FMap.blk {W : World} {b n : Nat} {F : List Lk} (h : FMap W b n F) : ∃ es ck, W.heap[b]? = some (.map es ck) := let ⟨_, ⟨es, ck, hh, _⟩, _⟩ := h; ⟨es, ck, hh⟩
theorem FMap.same {W W' : World} {b n : Nat} {F : List Lk} (h : FMap W b n F) (e : W'.heap[b]? = W.heap[b]?) : FMap W' b n F := by
  obtain ⟨D, ⟨es, ck, hh, r⟩, hm⟩ := h
  exact ⟨D, ⟨es, ck, e.trans hh, r⟩, hm⟩
theorem FMap.ext {W W' : World} {b n : Nat} {F : List Lk} (h : FMap W b n F) (e : Ext W W') : FMap W' b n F := h.same (e.block b h.lt)
theorem FMap.keep {rs : List Nat} {c : Nat} {W W' : World} {b n : Nat} {F : List Lk} (h : FMap W b n F) (e : Keep rs c W W') (hb : b ∉ rs) : FMap W' b n F := h.same (e.block b h.lt hb)
/-- 'n.flow[l]'. -/
theorem FMap.look {W : World} {b n : Nat} {F : List Lk} (h : FMap W b n F) (l : Lk) (hl : Sm l) : (Instr.lookup 73 (.map (some b)) (kv l) false).run Try.prog W = .ok (.bool (inF F l)) W := by
  obtain ⟨D, ho, hm⟩ := h
  obtain ⟨v', ps, hrun, hv'⟩ := ho.lookup keyed77 (t := 73) Try.underlying73 (z := .bool false) (by simp [zeroValue]; rfl) (zd := .held (.bool false)) (zp := []) rfl (ks_eq l hl)
  have hq := congrArg (Option.map Prod.fst) hv'
  simp only [RH, Option.map_some, Option.some.injEq] at hq
  obtain ⟨h1, h2⟩ := hm.2.1 l hl
  cases hi : inF F l with
  | true =>
    rw [h2 hi] at hq
    cases hq
    exact hrun
  | false =>
    rw [hi] at h1
    obtain ⟨es, rfl⟩ := hm.1
    have : es.find? (fun p => p.1.sameKey (ks l)) = none := by
      rw [List.find?_eq_none]; intro p hp hk
      have := List.any_eq_false.1 h1 p hp
      exact this hk
    simp only [DataW.atKey, this] at hq
    cases hq
    exact hrun
/-- 'n.flow[l] = true'. -/
theorem FMap.put {W : World} {b n : Nat} {F : List Lk} (h : FMap W b n F) (hn : n < 1000000) (l : Lk) (hl : Sm l) :
    ∃ w', (Instr.mapUpdate 73 (.map (some b)) (kv l) (.bool true)).run Try.prog W = .ok () w' ∧ FMap w' b (n + 1) (l :: F) ∧ W.mapTurned w' b := by
  obtain ⟨D, ho, hm⟩ := h
  obtain ⟨w', h1, h2, h3⟩ := ho.store keyed77 (t := 73) Try.underlying73 (by unfold maxLen; omega) (ks_eq l hl) (val := .bool true) (d := .held (.bool true)) (ps := []) rfl
  exact ⟨w', h1, ⟨_, h2, hm.put hl⟩, h3⟩
/-- 'delete(n.flow, l)'. -/
theorem FMap.del {W : World} {b n : Nat} {F : List Lk} (h : FMap W b n F) (l : Lk) (hl : Sm l) (ty : TypeId) :
    ∃ w', (Builtin.delete_ #[73, 77] ty #[.map (some b), kv l]).run Try.prog W = .ok (.tuple #[]) w' ∧ FMap w' b n (F.filter fun x => !(x.1 == l.1 && x.2 == l.2)) ∧ W.mapTurned w' b := by
  obtain ⟨D, ho, hm⟩ := h
  obtain ⟨w', h1, h2, h3⟩ := ho.drop keyed77 (t := 73) Try.underlying73 (ks_eq l hl) ty
  exact ⟨w', h1, ⟨_, h2, hm.del hl⟩, h3⟩
end Go.Proofs.Ytclcippfodjfeaa
namespace Go.Proofs.Ytclcippfodjfeaa
open Go.RowKit Go.Shelf
set_option linter.unusedVariables false
set_option linter.unusedSimpArgs false
attribute [local go_sem] Oper.semAt_some
theorem links97 (bn : Nat) (w : World) : Calls Try.prog 97 #[.pointer (some ⟨bn, 0, none⟩)] w fun e w' =>
    e = .returned (.func (.func 101) #[] #[.pointer (some ⟨w.heap.size, 0, none⟩)]) ∧ w' = w.alloc (.cells #[.pointer (some ⟨bn, 0, none⟩)] 64) := by
  go_enter Try.func97, Try.ntmps97
  go_wp2
  go_ret
  exact ⟨rfl, rfl⟩
theorem steps84 (bn : Nat) (w : World) : Calls Try.prog 84 #[.pointer (some ⟨bn, 0, none⟩)] w fun e w' =>
    e = .returned (.func (.func 96) #[] #[.pointer (some ⟨w.heap.size, 0, none⟩)]) ∧ w' = w.alloc (.cells #[.pointer (some ⟨bn, 0, none⟩)] 64) := by
  go_enter Try.func84, Try.ntmps84
  go_wp2
  go_ret
  exact ⟨rfl, rfl⟩
abbrev StOf (row : List Int) (F : List Lk) := { s : Lk × Int // s ∈ stepsL row F }
def encT (row : List Int) (F : List Lk) (x : StOf row F) : Array Value := #[.agg #[.int .i64 (x.1.1.1 : Int), .int .i64 (x.1.1.2 : Int)], .int .i64 x.1.2]
def vT {row : List Int} {F : List Lk} (ys : List (StOf row F)) : List (Lk × Int) := ys.map Subtype.val
theorem vT_snoc {row : List Int} {F : List Lk} (ys : List (StOf row F)) (x : StOf row F) : vT (ys ++ [x]) = vT ys ++ [x.1] := by simp [vT]
theorem vT_len {row : List Int} {F : List Lk} (ys : List (StOf row F)) : (vT ys).length = ys.length := by simp [vT]
theorem stepsOf_len (F : List Lk) (x : Lk × Nat) : (stepsOf F x).length ≤ 2 := by
  unfold stepsOf; split <;> split <;> simp
theorem flat_len (F : List Lk) (l : List (Lk × Nat)) : (l.flatMap (stepsOf F)).length ≤ 2 * l.length := by
  induction l with
  | nil => simp
  | cons x l ih =>
    have := stepsOf_len F x
    rw [List.flatMap_cons, List.length_append, List.length_cons]; omega
theorem link_sm {row : List Int} (hn : row.length ≤ 30) {x : Lk × Nat} (hx : x ∈ linksL row) : x.1.1 < 62 ∧ x.1.2 < 62 ∧ x.2 ≤ 1 := by
  obtain ⟨l, c⟩ := x
  rcases mem_links.1 hx with ⟨rfl, rfl⟩ | ⟨i, hi, ⟨rfl, rfl⟩ | ⟨rfl, rfl⟩ | ⟨rfl, rfl⟩ | ⟨j, hj, h1, h2, rfl, rfl⟩⟩
  all_goals simp [bef, aft] <;> omega
theorem step_mem {row : List Int} {F : List Lk} {x : Lk × Nat} (hx : x ∈ linksL row) {s : Lk × Int} (hs : s ∈ stepsOf F x) : s ∈ stepsL row F := by
  unfold stepsL; exact List.mem_flatMap.2 ⟨x, hx, hs⟩
theorem bridge (x : Lk × Nat) (v : Int) : v = v := rfl
set_option maxRecDepth 100000 in
set_option maxHeartbeats 1000000 in
theorem steps96 (f Bn bn mf nf N n cap : Nat) (a : Option Addr) (row : List Int) (F : List Lk) (rs : List Nat) (w : World) (hf : 7 ≤ f) (hln : n = row.length) (hrd : ∀ X, Keep rs 2 w X → Reads X (.slice a n cap) row) (hn : n ≤ 30) (hN : 5000 ≤ N) (hrs : ∀ r ∈ rs, r < w.heap.size)
    (hB : Boxed w Bn 64 (.pointer (some ⟨bn, 0, none⟩))) (hnB : Bn ∉ rs) (hc : ∀ X, Keep rs 2 w X → X.cell? ⟨bn, 0, none⟩ = some (.slice a n cap) ∧ X.cell? ⟨bn, 1, none⟩ = some (.map (some mf))) (hm : FMap w mf nf F) (hnm : mf ∉ rs) :
    SeqAny f 96 #[.pointer (some ⟨Bn, 0, none⟩)] (encT row F) (Keep rs 2) (fun ys => vT ys = stepsL row F) N w := by
  intro l J W hW hJ hY hJ0
  have c1 := Boxed.cell (block_ext hW hB)
  have l1 := hB.lt; have l3 := hW.size; have l4 := hm.lt
  have HY := Lib.hid hY; have HJ := Lib.hid hJ; have H0 := Lib.hid hJ0; have HRS := Lib.hid hrs; have HC := Lib.hid hc; have HR := Lib.hid hrd; have HB := Lib.hid hB; have HNB := Lib.hid hnB
  have HLN := Lib.hid hln; have HM := Lib.hid hm; have HNM := Lib.hid hnm
  clear hY hJ hJ0 hrs hc hrd hB hnB hln hm hnm
  refine callsIn_of_wp_marks Try.func96 rfl trivial ?_ rfl
  simp only [Try.ntmps96, List.size_toArray, List.length_cons, List.length_nil, Nat.reduceAdd, Nat.reduceSub, Array.replicate_succ, Array.replicate_zero, List.push_toArray, List.append_toArray, List.nil_append, List.cons_append]
  have hE1 : Ext W (W.alloc (.cells #[.func (.yield l) #[] #[]] 110)) := (Ext.refl W).alloc _
  have hy1 : Boxed (W.alloc (.cells #[.func (.yield l) #[] #[]] 110)) W.heap.size 110 (.func (.yield l) #[] #[]) := Boxed.new W 110 _
  have hz1 : (W.alloc (.cells #[.func (.yield l) #[] #[]] 110)).heap.size = W.heap.size + 1 := by simp
  have c1 := cell_ext hE1 c1
  generalize hW1 : W.alloc (.cells #[.func (.yield l) #[] #[]] 110) = W1 at *
  have hBW := boxed_later HB.out (Below.trans hW (hE1.mono hW.size))
  gi_wp2_with fail
  refine ⟨trivial, fun h => (by cases h), (callsIn_wide.2 (links97 bn W1)).mono ?_⟩
  rintro e w2 ⟨rfl, rfl⟩
  have hE2 : Ext W1 (W1.alloc (.cells #[.pointer (some ⟨bn, 0, none⟩)] 64)) := (Ext.refl W1).alloc _
  have hb2 : Boxed (W1.alloc (.cells #[.pointer (some ⟨bn, 0, none⟩)] 64)) W1.heap.size 64 (.pointer (some ⟨bn, 0, none⟩)) := Boxed.new W1 64 _
  have hz2 : (W1.alloc (.cells #[.pointer (some ⟨bn, 0, none⟩)] 64)).heap.size = W1.heap.size + 1 := by simp
  generalize hW2 : W1.alloc (.cells #[.pointer (some ⟨bn, 0, none⟩)] 64) = W2 at *
  rw [hz1] at hb2
  have hEw : Ext w W2 := Below.trans (Below.trans hW (hE1.mono hW.size)) (hE2.mono (by have := hE1.size; omega))
  have hkw : ∀ X, Keep rs 2 W2 X → Keep rs 2 w X := fun X h => (Keep.ext hEw).trans h
  have hseq := links101 (f - 1) (W.heap.size + 1) bn 2000 n cap a row rs W2 (by omega) HLN.out (fun X hX => HR.out X (hkw X hX)) hn (Nat.le_refl _) (fun r hr => by have := HRS.out r hr; omega) hb2 (fun hm => by have := HRS.out _ hm; omega) (fun X hX => (HC.out X (hkw X hX)).1)
  have HSEQ := Lib.hid hseq; have HKW := Lib.hid hkw
  have HBN := Lib.hid (boxed_later hBW hE2); have HBY := Lib.hid (boxed_later hy1 hE2)
  have HJ2 := Lib.hid (abides HJ.out H0.out (hE1.trans hE2))
  have HM2 := Lib.hid (HM.out.ext hEw)
  clear hseq hkw hW1 hW2 hb2 hBW hy1 c1
  gi_wp2
  refine wp_seqAnyB (by omega) (gf := 101) (encs := encL row) (ps := #[8, 9]) (rs := rs) (c := 2) rfl (enters_of Try.func101 (by kernel_rfl) rfl) HSEQ.out (Below.refl _ _) (fun _ => rfl) (fun r hr => by have := HRS.out r hr; omega)
    (fun pre X => (∃ q : List (StOf row F), vT q = (vL pre).flatMap (stepsOf F) ∧ J q X) ∧ Keep rs 2 W2 X) ?hI ?h0 ?hIE
    77 (fun x => #[.int .i64 (x.1.1.1 : Int), .int .i64 (x.1.1.2 : Int)]) ?af ?assign ?body ?done
  case hI =>
    refine OwnFrom.and ?_ (ownFrom_keep (Nat.le_refl _) (fun r hr => by have := HRS.out r hr; omega))
    rintro s A B row ⟨q, h1, h2⟩ hg hr
    exact ⟨q, h1, HJ.out _ A B row h2 hg (fun r e => ⟨by have := (hr r e).1; omega, (hr r e).2⟩)⟩
  case h0 => exact ⟨⟨[], rfl, HJ2.out⟩, Keep.refl _ _ _⟩
  case hIE =>
    rintro pre X X' ⟨⟨q, h1, h2⟩, h3⟩ hE
    exact ⟨⟨q, h1, abides HJ.out h2 hE⟩, h3.trans (Keep.ext hE)⟩
  case assign =>
    rintro l2 x X B K hB hK
    dsimp only [encL]
    gi_wp2
    rw [← hB]
    exact hK
  case body =>
    rintro l2 pre x Bx X hl2 ⟨⟨q, hq, hJX⟩, hKX⟩ hBx hbx hlt2
    obtain ⟨⟨⟨i, j⟩, c⟩, hxm⟩ := x
    obtain ⟨si, sj, sc⟩ := link_sm (by rw [← HLN.out]; exact hn) hxm
    dsimp only at si sj sc hbx
    have nin : ∀ g, w.heap.size ≤ g → g ∉ rs := fun g hg hm => by have := HRS.out g hm; omega
    obtain ⟨-, d2⟩ := HC.out X (HKW.out X hKX)
    have d1 := hKX.cell HNB.out HBN.out.cell
    have d5 := hKX.cell (nin W.heap.size (by omega)) HBY.out.cell
    have d3 : X.cell? ⟨Bx, 0, none⟩ = some (.int .i64 (i : Int)) := cell_of_blk hbx rfl
    have d4 : X.cell? ⟨Bx, 1, none⟩ = some (.int .i64 (j : Int)) := cell_of_blk hbx rfl
    have hm := HM2.out.keep hKX HNM.out
    have hsm : Sm (i, j) := ⟨by simp; omega, by simp; omega⟩
    have hlk := fun (Z : World) (h : Ext X Z) => (hm.ext h).look (i, j) hsm
    have hqn : vT q = (vL pre).flatMap (stepsOf F) := hq
    have hlen : ∀ q' : List (StOf row F), (vT q').length ≤ ((vL pre).flatMap (stepsOf F)).length + 2 → q'.length < N := fun q' h => by
      have h1 := flat_len F (vL pre)
      rw [vL_len] at h1
      rw [vT_len] at h; omega
    have hsn : (vL (pre ++ [⟨((i, j), c), hxm⟩])).flatMap (stepsOf F) = vT q ++ stepsOf F ((i, j), c) := by rw [vL_snoc, List.flatMap_append, hq]; simp
    have hmem := fun (s : Lk × Int) (h : s ∈ stepsOf F ((i, j), c)) => step_mem hxm h
    have HLK := Lib.hid hlk; have HQ := Lib.hid hqn; have HLEN := Lib.hid hlen; have HSN := Lib.hid hsn; have HMEM := Lib.hid hmem
    have NY := Lib.hid (nin W.heap.size (by omega)); have NX := Lib.hid (nin Bx (by omega))
    have HKX := Lib.hid hKX; have HJX := Lib.hid hJX
    clear hm hlk hqn hq hlen hsn hmem nin hKX hJX hbx
    obtain ⟨fl, hfl⟩ : ∃ fl, fl = inF F (i, j) := ⟨_, rfl⟩
    have HFL := Lib.hid hfl
    have HLK := Lib.hid (fun (Z : World) (h : Ext X Z) => by have h1 := HLK.out Z h; rw [← hfl] at h1; exact h1)
    clear hfl
    gi_wp2
    refine wpIn_order (tk := takeB) (fun f => trivial) (fun Z : World => Z.cell? ⟨Bn, 0, none⟩ = some (.pointer (some ⟨bn, 0, none⟩)) ∧ Z.cell? ⟨bn, 1, none⟩ = some (.map (some mf)) ∧ Z.cell? ⟨Bx, 0, none⟩ = some (.int .i64 (i : Int)) ∧ Z.cell? ⟨Bx, 1, none⟩ = some (.int .i64 (j : Int)) ∧ Z.cell? ⟨W.heap.size, 0, none⟩ = some (.func (.yield l) #[] #[]) ∧ Hid (Ext X Z)) [0, 1, 2, 3, 4, 5, 6] (by kernel_rfl) (by kernel_rfl) (by kernel_rfl) (by exact ⟨d1, d2, d3, d4, d5, Lib.hid (Ext.refl _).drew⟩) (fun hHeld => ?_)
    simp only [opsIn, List.filterMap_cons, List.filterMap_nil, List.getElem?_toArray, List.getElem?_cons_succ, List.getElem?_cons_zero]
    refine' textI_chunk 5 (by kernel_rfl) hHeld ?ck1 ?cr1
    case ck1 =>
      intro W hSw
      have hSW := hSw
      try dsimp only at hSW
      clear hSw
      simp only [List.take_succ_cons, List.take_zero, List.drop_succ_cons, List.drop_zero]
      repeat (go_big_quiet_step (fail))
      exact wpQuiet_nil rfl
    simp only [List.take_succ_cons, List.take_zero, List.drop_succ_cons, List.drop_zero]
    have hL : (Instr.lookup 73 (.map (some mf)) (.agg #[.int .i64 (i : Int), .int .i64 (j : Int)]) false).run Try.prog X.drew = .ok (.bool fl) X.drew := HLK.out X.drew hHeld.2.2.2.2.2.out
    refine textI_call (by rfl) (by rfl) (fun K hK => ?_)
    go_simp
    refine hK.out _ _ (by exact hHeld) (fun hHeld => ?_)
    clear hK K hL
    try simp only [Act.put, List.setIfInBounds_toArray, List.set_cons_zero, List.set_cons_succ]
    refine' textI_chunk 1 (by kernel_rfl) hHeld ?ck2 ?cr2
    case ck2 =>
      intro W hSw
      have hSW := hSw
      try dsimp only at hSW
      clear hSw
      simp only [List.take_succ_cons, List.take_zero, List.drop_succ_cons, List.drop_zero]
      repeat (go_big_quiet_step (fail))
      exact wpQuiet_nil rfl
    simp only [List.take_succ_cons, List.take_zero, List.drop_succ_cons, List.drop_zero]
    refine textI_done ?_
    clear hHeld d1 d2
    have hc0 : (0 : Int) ≤ (c : Int) := by omega
    have hc1 : (c : Int) ≤ 1 := by omega
    gi_wp2
    cases fl
    · have hso : stepsOf F ((i, j), c) = [((i, j), (c : Int))] := by unfold stepsOf; dsimp only; rw [← HFL.out]; simp
      rw [hso] at HSN HMEM
      clear hso
      refine wpIn_order (tk := takeB) (fun f => trivial) (fun Z : World => Z.cell? ⟨Bx, 0, none⟩ = some (.int .i64 (i : Int)) ∧ Z.cell? ⟨Bx, 1, none⟩ = some (.int .i64 (j : Int)) ∧ Z.cell? ⟨W.heap.size, 0, none⟩ = some (.func (.yield l) #[] #[]) ∧ Hid (Keep rs 2 X Z)) [0, 1, 2, 3, 5, 6, 4, 7, 8, 9] (by kernel_rfl) (by kernel_rfl) (by kernel_rfl) (by exact ⟨d3, d4, d5, Lib.hid (Keep.refl _ _ _).drew.drew⟩) (fun hHeld => ?_)
      simp only [opsIn, List.filterMap_cons, List.filterMap_nil, List.getElem?_toArray, List.getElem?_cons_succ, List.getElem?_cons_zero]
      refine' textI_chunk 6 (by kernel_rfl) hHeld ?ck3 ?cr3
      case ck3 =>
        intro W hSw
        have hSW := hSw
        try dsimp only at hSW
        clear hSw
        simp only [List.take_succ_cons, List.take_zero, List.drop_succ_cons, List.drop_zero]
        repeat (go_big_quiet_step (fail))
        exact wpQuiet_nil rfl
      simp only [List.take_succ_cons, List.take_zero, List.drop_succ_cons, List.drop_zero]
      refine textI_skip (by rfl) ?_
      try simp only [Act.put, List.setIfInBounds_toArray, List.set_cons_zero, List.set_cons_succ]
      refine textI_skip (by rfl) ?_
      try simp only [Act.put, List.setIfInBounds_toArray, List.set_cons_zero, List.set_cons_succ]
      refine' textI_chunk 2 (by kernel_rfl) hHeld ?ck4 ?cr4
      case ck4 =>
        intro W hSw
        have hSW := hSw
        try dsimp only at hSW
        clear hSw
        simp only [List.take_succ_cons, List.take_zero, List.drop_succ_cons, List.drop_zero]
        repeat (go_big_quiet_step (fail))
        exact wpQuiet_nil rfl
      simp only [List.take_succ_cons, List.take_zero, List.drop_succ_cons, List.drop_zero]
      refine textI_done ?_
      have hd3 := hHeld.1; have hd4 := hHeld.2.1; have hd5 := hHeld.2.2.1
      have hjd : J q X.drew.drew := abides HJ.out HJX.out ((Ext.refl X).drew.drew)
      clear hHeld d3 d4 d5
      obtain ⟨fn, tmps, assign, body, hyy, hR⟩ := HY.out q ⟨((i, j), (c : Int)), HMEM.out _ (by simp)⟩ X.drew.drew hjd (HLEN.out _ (by rw [HQ.out]; omega))
      have HR := Lib.hid (RoundIn.any (m' := f - 1 - 1 - 1) (l0 := l2) hR); clear hR
      simp only [encT] at hyy
      gi_wp2_with fail
      refine ⟨fun h => (by cases h), ?_⟩
      refine RoundIn.mono HR.out ?_
      rintro e v6 ⟨rfl, hJn, hKn⟩
      have HJ6 := Lib.hid hJn; have HK6 := Lib.hid hKn
      clear hyy HR hJn hKn
      gi_wp2
      refine ⟨(Keep.refl _ _ _).drew.drew.trans HK6.out, ⟨_, ?_, HJ6.out⟩, HKX.out.trans ((Keep.refl _ _ _).drew.drew.trans HK6.out)⟩
      rw [vT_snoc, HSN.out]
    · by_cases hcz : c = 0
      · subst hcz
        have hso : stepsOf F ((i, j), 0) = [(turn (i, j), -((0 : Nat) : Int)), ((i, j), ((0 : Nat) : Int))] := by unfold stepsOf; dsimp only; rw [← HFL.out]; simp
        rw [hso] at HSN HMEM
        clear hso
        refine wpIn_order (tk := takeB) (fun f => trivial) (fun Z : World => Z.cell? ⟨Bx, 0, none⟩ = some (.int .i64 (i : Int)) ∧ Z.cell? ⟨Bx, 1, none⟩ = some (.int .i64 (j : Int)) ∧ Z.cell? ⟨W.heap.size, 0, none⟩ = some (.func (.yield l) #[] #[]) ∧ Hid (Keep rs 2 X Z)) [0, 1, 2, 3, 5, 6, 4, 7, 8, 9] (by kernel_rfl) (by kernel_rfl) (by kernel_rfl) (by exact ⟨d3, d4, d5, Lib.hid (Keep.refl _ _ _).drew.drew⟩) (fun hHeld => ?_)
        simp only [opsIn, List.filterMap_cons, List.filterMap_nil, List.getElem?_toArray, List.getElem?_cons_succ, List.getElem?_cons_zero]
        refine' textI_chunk 6 (by kernel_rfl) hHeld ?ck5 ?cr5
        case ck5 =>
          intro W hSw
          have hSW := hSw
          try dsimp only at hSW
          clear hSw
          simp only [List.take_succ_cons, List.take_zero, List.drop_succ_cons, List.drop_zero]
          repeat (go_big_quiet_step (fail))
          exact wpQuiet_nil rfl
        simp only [List.take_succ_cons, List.take_zero, List.drop_succ_cons, List.drop_zero]
        refine textI_call (by rfl) (by rfl) (fun K hK => ?_)
        go_simp
        refine ⟨trivial, fun h => (by cases h), (CallsIn.inRound l2 (callsIn_wide.2 (turned85 (i, j) _))).mono ?_⟩
        rintro e w5 ⟨rfl, hb5⟩
        have HB5 := Lib.hid hb5
        dsimp only [turn]
        all_goals (try (gi_wp2_with fail))
        refine hK.out _ _ (by exact ⟨cell_ext HB5.out hHeld.1, cell_ext HB5.out hHeld.2.1, cell_ext HB5.out hHeld.2.2.1, Lib.hid (hHeld.2.2.2.out.trans (Keep.ext HB5.out))⟩) (fun hHeld => ?_)
        clear hK K
        try simp only [Act.put, List.setIfInBounds_toArray, List.set_cons_zero, List.set_cons_succ]
        have hq5 : J q w5 := abides HJ.out HJX.out ((Ext.refl X).drew.drew.trans HB5.out)
        obtain ⟨fn, tmps, assign, body, hyy, hR⟩ := HY.out q ⟨(turn (i, j), -((0 : Nat) : Int)), HMEM.out _ (by simp)⟩ w5 hq5 (HLEN.out q (by rw [HQ.out]; omega))
        have HR := Lib.hid (RoundIn.any (m' := f - 1 - 1 - 1) (l0 := l2) hR); clear hR hq5
        simp only [encT, turn, Int.natCast_zero, Int.natCast_one, Int.neg_zero] at hyy
        refine textI_call (by rfl) (by rfl) (fun K hK => ?_)
        go_simp
        refine ⟨fun h => (by cases h), ?_⟩
        refine RoundIn.mono HR.out ?_
        rintro e v5 ⟨rfl, hJn, hKn⟩
        have HJ5 := Lib.hid hJn; have HK5 := Lib.hid hKn
        clear hyy HR
        all_goals (try (gi_wp2_with fail))
        refine hK.out _ _ (by exact ⟨hKn.cell NX.out hHeld.1, hKn.cell NX.out hHeld.2.1, hKn.cell NY.out hHeld.2.2.1, Lib.hid (hHeld.2.2.2.out.trans hKn)⟩) (fun hHeld => ?_)
        clear hK K fn tmps assign body
        try simp only [Act.put, List.setIfInBounds_toArray, List.set_cons_zero, List.set_cons_succ]
        refine' textI_chunk 2 (by kernel_rfl) hHeld ?ck6 ?cr6
        case ck6 =>
          intro W hSw
          have hSW := hSw
          try dsimp only at hSW
          clear hSw
          simp only [List.take_succ_cons, List.take_zero, List.drop_succ_cons, List.drop_zero]
          repeat (go_big_quiet_step (fail))
          exact wpQuiet_nil rfl
        simp only [List.take_succ_cons, List.take_zero, List.drop_succ_cons, List.drop_zero]
        refine textI_done ?_
        have HF5 := Lib.hid hHeld.2.2.2.out
        have hd3 := hHeld.1; have hd4 := hHeld.2.1; have hd5 := hHeld.2.2.1
        clear hHeld d3 d4 d5
        obtain ⟨fn, tmps, assign, body, hyy, hR⟩ := HY.out _ ⟨((i, j), ((0 : Nat) : Int)), HMEM.out _ (by simp)⟩ v5 HJ5.out (HLEN.out _ (by rw [vT_snoc, List.length_append, HQ.out]; simp))
        have HR := Lib.hid (RoundIn.any (m' := f - 1 - 1 - 1) (l0 := l2) hR); clear hR
        simp only [encT, Int.natCast_zero] at hyy
        gi_wp2_with fail
        refine ⟨fun h => (by cases h), ?_⟩
        refine RoundIn.mono HR.out ?_
        rintro e v6 ⟨rfl, hJn, hKn⟩
        have HJ6 := Lib.hid hJn; have HK6 := Lib.hid hKn
        clear hyy HR hJn hKn
        gi_wp2
        refine ⟨HF5.out.trans HK6.out, ⟨_, ?_, HJ6.out⟩, HKX.out.trans (HF5.out.trans HK6.out)⟩
        rw [vT_snoc, vT_snoc, HSN.out]; simp
      · obtain rfl : c = 1 := by omega
        have hso : stepsOf F ((i, j), 1) = [(turn (i, j), -((1 : Nat) : Int))] := by unfold stepsOf; dsimp only; rw [← HFL.out]; simp
        rw [hso] at HSN HMEM
        clear hso
        refine wpIn_order (tk := takeB) (fun f => trivial) (fun Z : World => Z.cell? ⟨Bx, 0, none⟩ = some (.int .i64 (i : Int)) ∧ Z.cell? ⟨Bx, 1, none⟩ = some (.int .i64 (j : Int)) ∧ Z.cell? ⟨W.heap.size, 0, none⟩ = some (.func (.yield l) #[] #[]) ∧ Hid (Keep rs 2 X Z)) [0, 1, 2, 3, 5, 6, 4, 7, 8, 9] (by kernel_rfl) (by kernel_rfl) (by kernel_rfl) (by exact ⟨d3, d4, d5, Lib.hid (Keep.refl _ _ _).drew.drew⟩) (fun hHeld => ?_)
        simp only [opsIn, List.filterMap_cons, List.filterMap_nil, List.getElem?_toArray, List.getElem?_cons_succ, List.getElem?_cons_zero]
        refine' textI_chunk 6 (by kernel_rfl) hHeld ?ck7 ?cr7
        case ck7 =>
          intro W hSw
          have hSW := hSw
          try dsimp only at hSW
          clear hSw
          simp only [List.take_succ_cons, List.take_zero, List.drop_succ_cons, List.drop_zero]
          repeat (go_big_quiet_step (fail))
          exact wpQuiet_nil rfl
        simp only [List.take_succ_cons, List.take_zero, List.drop_succ_cons, List.drop_zero]
        refine textI_call (by rfl) (by rfl) (fun K hK => ?_)
        go_simp
        refine ⟨trivial, fun h => (by cases h), (CallsIn.inRound l2 (callsIn_wide.2 (turned85 (i, j) _))).mono ?_⟩
        rintro e w5 ⟨rfl, hb5⟩
        have HB5 := Lib.hid hb5
        dsimp only [turn]
        all_goals (try (gi_wp2_with fail))
        refine hK.out _ _ (by exact ⟨cell_ext HB5.out hHeld.1, cell_ext HB5.out hHeld.2.1, cell_ext HB5.out hHeld.2.2.1, Lib.hid (hHeld.2.2.2.out.trans (Keep.ext HB5.out))⟩) (fun hHeld => ?_)
        clear hK K
        try simp only [Act.put, List.setIfInBounds_toArray, List.set_cons_zero, List.set_cons_succ]
        have hq5 : J q w5 := abides HJ.out HJX.out ((Ext.refl X).drew.drew.trans HB5.out)
        obtain ⟨fn, tmps, assign, body, hyy, hR⟩ := HY.out q ⟨(turn (i, j), -((1 : Nat) : Int)), HMEM.out _ (by simp)⟩ w5 hq5 (HLEN.out q (by rw [HQ.out]; omega))
        have HR := Lib.hid (RoundIn.any (m' := f - 1 - 1 - 1) (l0 := l2) hR); clear hR hq5
        simp only [encT, turn, Int.natCast_zero, Int.natCast_one, Int.neg_zero] at hyy
        refine textI_call (by rfl) (by rfl) (fun K hK => ?_)
        go_simp
        refine ⟨fun h => (by cases h), ?_⟩
        refine RoundIn.mono HR.out ?_
        rintro e v5 ⟨rfl, hJn, hKn⟩
        have HJ5 := Lib.hid hJn; have HK5 := Lib.hid hKn
        clear hyy HR
        all_goals (try (gi_wp2_with fail))
        refine hK.out _ _ (by exact ⟨hKn.cell NX.out hHeld.1, hKn.cell NX.out hHeld.2.1, hKn.cell NY.out hHeld.2.2.1, Lib.hid (hHeld.2.2.2.out.trans hKn)⟩) (fun hHeld => ?_)
        clear hK K fn tmps assign body
        try simp only [Act.put, List.setIfInBounds_toArray, List.set_cons_zero, List.set_cons_succ]
        refine' textI_chunk 2 (by kernel_rfl) hHeld ?ck8 ?cr8
        case ck8 =>
          intro W hSw
          have hSW := hSw
          try dsimp only at hSW
          clear hSw
          simp only [List.take_succ_cons, List.take_zero, List.drop_succ_cons, List.drop_zero]
          repeat (go_big_quiet_step (fail))
          exact wpQuiet_nil rfl
        simp only [List.take_succ_cons, List.take_zero, List.drop_succ_cons, List.drop_zero]
        refine textI_done ?_
        have HF5 := Lib.hid hHeld.2.2.2.out
        clear hHeld d3 d4 d5
        gi_wp2
        refine ⟨fun f' h => (by cases h), ?_⟩
        gi_wp2
        refine ⟨HF5.out, ⟨_, ?_, HJ5.out⟩, HKX.out.trans HF5.out⟩
        rw [vT_snoc, HSN.out]
  case done =>
    rintro D ys X hD hS ⟨⟨q, hq, hJX⟩, hKX⟩ hDW
    have hJ2 : J q (X.putObj D (.deferred none)) := HJ.out.putObj _ hJX (by omega) hDW rfl
    have hS2 : vT q = stepsL row F := by rw [hq, hS]; rfl
    have HJ3 := Lib.hid hJ2; have HS2 := Lib.hid hS2; have HDW := Lib.hid hDW
    clear hJ2 hS2 hDW hJX hKX hS hq
    gi_wp2
    refine ⟨by simp, .inl ⟨_, _, rfl, run_takeDeferred HDW.out, ?_⟩⟩
    exact ⟨_, results_none rfl _ _ _, ⟨_, rfl⟩, _, HS2.out, HJ3.out⟩
end Go.Proofs.Ytclcippfodjfeaa
