/- walk: what is known of the spots. mayCut. -/
import Derived.Test.YtcgheakadfjofaaE5
import Derived.Test.YtcgheakadfjofaaD16
namespace Go.Proofs.Ytcgheakadfjofaa
open Go.RowKit Go.Maps Go.Shelf
set_option linter.unusedVariables false
set_option linter.unusedSimpArgs false
attribute [local go_sem] Oper.semAt_some
def Fr65 (b B M3 n k : Nat) (ds : List Deferred) (A : Act) : Prop :=
  ∃ x2 x4 x5 x6 x7 x8 x9 x10 x11 x12 x13 x14 x15 x16 x19 x20 x21 x22 x23 x24 x25 x26 x27 x28 x29 x30 x31 x32 x33 x34 x35 x36 x37 x38 x39 x40 x41 x42 x43 : Value, A = { tmps := #[.pointer (some ⟨b, 0, none⟩), .pointer (some ⟨B, 0, none⟩), x2, .pointer (some ⟨M3, 0, none⟩), x4, x5, x6, x7, x8, x9, x10, x11, x12, x13, x14, x15, x16, .int .i64 ((n : Int) + 1), .int .i64 (k : Int), x19, x20, x21, x22, x23, x24, x25, x26, x27, x28, x29, x30, x31, x32, x33, x34, x35, x36, x37, x38, x39, x40, x41, x42, x43], defers := ds }
theorem Fr65.mk {b B M3 n k : Nat} {ds : List Deferred} {x2 x4 x5 x6 x7 x8 x9 x10 x11 x12 x13 x14 x15 x16 x19 x20 x21 x22 x23 x24 x25 x26 x27 x28 x29 x30 x31 x32 x33 x34 x35 x36 x37 x38 x39 x40 x41 x42 x43 : Value} : Fr65 b B M3 n k ds { tmps := #[.pointer (some ⟨b, 0, none⟩), .pointer (some ⟨B, 0, none⟩), x2, .pointer (some ⟨M3, 0, none⟩), x4, x5, x6, x7, x8, x9, x10, x11, x12, x13, x14, x15, x16, .int .i64 ((n : Int) + 1), .int .i64 (k : Int), x19, x20, x21, x22, x23, x24, x25, x26, x27, x28, x29, x30, x31, x32, x33, x34, x35, x36, x37, x38, x39, x40, x41, x42, x43], defers := ds } := ⟨x2, x4, x5, x6, x7, x8, x9, x10, x11, x12, x13, x14, x15, x16, x19, x20, x21, x22, x23, x24, x25, x26, x27, x28, x29, x30, x31, x32, x33, x34, x35, x36, x37, x38, x39, x40, x41, x42, x43, rfl⟩
def slotI (A : Act) (i : Nat) : Int := match A.tmps.getD i undef with | .int _ z => z | _ => 0
theorem cuts_len {f : Nat → Nat → Int} {lt : Nat → Nat → Bool} {n : Nat} : ∀ (l : List (Nat × Nat)) (i : Nat), Cuts f lt n i l → l.length ≤ n - i
  | [], i, _ => by simp
  | p :: l, i, ⟨h1, h2, h3, h4, h5, h6⟩ => by
    have := cuts_len l _ h6
    simp only [List.length_cons]; omega
theorem cutK_len (f : Nat → Nat → Int) (n k : Nat) : (cutK (walkK f n k) k true).length ≤ k := by
  unfold cutK
  cases h : walkK f n k k true with
  | none => simp
  | some x =>
    obtain ⟨l, c⟩ := x
    have := cuts_len _ _ ((walk_ok f n k).cut k l c h).2.1
    dsimp only; omega
theorem parts_len (f : Nat → Nat → Int) (n i : Nat) : (partsL f n i).length ≤ n + 1 := by
  unfold partsL
  split
  · rw [List.length_cons, List.length_map]
    have : (logsT f allB n i).length ≤ n - i := by
      unfold logsT
      exact Nat.le_trans (List.length_filter_le _ _) (by rw [List.length_range']; exact Nat.le_refl _)
    omega
  · simp
theorem walkK_succ (f : Nat → Nat → Int) (n m : Nat) : walkK f n (m + 1) = stepK f n (walkK f n m) m := by unfold walkK; rw [List.range_succ, List.foldl_append]; rfl
theorem step_none {f : Nat → Nat → Int} {n k : Nat} {K : Kn} (h : (K k true).isSome = false) : stepK f n K k = K := by
  unfold stepK; cases hk : K k true with
  | none => rfl
  | some x => rw [hk] at h; cases h
theorem step_some {f : Nat → Nat → Int} {n k : Nat} {K : Kn} (h : (K k true).isSome = true) : stepK f n K k = placeK f n K k (partsL f n k) (cutK K k true) := by
  unfold stepK cutK; cases hk : K k true with
  | none => rw [hk] at h; cases h
  | some x => rfl
theorem place_snoc (f : Nat → Nat → Int) (n : Nat) (K : Kn) (i : Nat) (ps : List (Nat × Int)) (c : List (Nat × Nat)) (p : Nat × Int) : placeK f n K i (ps ++ [p]) c = if bestB f n i p = true then noteK (placeK f n K i ps c) i p c else placeK f n K i ps c := by
  unfold placeK
  rw [List.filter_append, List.foldl_append]
  by_cases h : bestB f n i p = true
  · rw [if_pos h]; simp [h]
  · rw [if_neg h]; simp [h]
theorem ReadsLg.turn {A B : World} {v : Value} {ls : List (Int × Int)} (h : ReadsLg A v ls) {base : Nat} {row : Option Nat} (hg : A.grownBy B row) (hr : ∀ r, row = some r → base ≤ r ∧ ∃ o : Obj, A.heap[r]? = some o ∧ o.isCells = false) : ReadsLg B v ls := by
  obtain ⟨hl, a, cap, rfl, h⟩ := h
  refine ⟨hl, a, cap, rfl, h.imp id ?_⟩
  rintro ⟨c, off, rfl, hc⟩
  have key : ∀ o u, A.cell? ⟨c, o, none⟩ = some u → B.cell? ⟨c, o, none⟩ = some u := fun o u hu => by
    obtain ⟨ob, h1, h2⟩ := cell_cells hu
    have h3 : B.heap[c]? = A.heap[c]? := hg.block c (lt_of_cell hu) (fun e => by
      obtain ⟨-, o', h4, h5⟩ := hr c e.symm
      rw [h1] at h4; cases h4; rw [h2] at h5; cases h5)
    unfold World.cell? at hu ⊢; dsimp only at hu ⊢; rw [h3]; exact hu
  exact ⟨c, off, rfl, fun i p hi => ⟨key _ _ (hc i p hi).1, key _ _ (hc i p hi).2⟩⟩
theorem ReadsLc.turn {A B : World} {v : Value} {ls : List (Int × Int)} (h : ReadsLc A v ls) {base : Nat} {row : Option Nat} (hg : A.grownBy B row) (hr : ∀ r, row = some r → base ≤ r ∧ ∃ o : Obj, A.heap[r]? = some o ∧ o.isCells = false) : ReadsLc B v ls := ⟨h.1.turn hg hr, h.2⟩
theorem KMap.turn {A B : World} {M N : Nat} {K : Kn} (h : KMap A M N K) {base : Nat} (hM : M < base) {row : Option Nat} (hg : A.grownBy B row) (hr : ∀ r, row = some r → base ≤ r ∧ ∃ o : Obj, A.heap[r]? = some o ∧ o.isCells = false) : KMap B M N K := by
  have hlt := h.lt
  obtain ⟨D, ⟨es, ck, hh, r⟩, hm⟩ := h
  exact ⟨D, ⟨es, ck, (hg.block M hlt (fun e => by have := (hr M e.symm).1; omega)).trans hh, r⟩, hm.turn fun v ls hv => hv.turn hg hr⟩
theorem ext_turn {W1 A B : World} (h : Ext W1 A) {base : Nat} (hb : W1.heap.size ≤ base) {row : Option Nat} (hg : A.grownBy B row) (hr : ∀ r, row = some r → base ≤ r ∧ ∃ o : Obj, A.heap[r]? = some o ∧ o.isCells = false) : Ext W1 B :=
  ⟨hg.os.trans h.os, hg.tape.trans h.tape, hg.output.trans h.output, Nat.le_trans h.size hg.size, fun i hi => (hg.block i (Nat.lt_of_lt_of_le hi h.size) (fun e => by have := (hr i e.symm).1; omega)).trans (h.block i hi)⟩
theorem ReadsLg.keepC {A B : World} {v : Value} {ls : List (Int × Int)} (h : ReadsLg A v ls) (hk : KeepC [] A B) : ReadsLg B v ls := by
  obtain ⟨hl, a, cap, rfl, h⟩ := h
  refine ⟨hl, a, cap, rfl, h.imp id ?_⟩
  rintro ⟨c, off, rfl, hc⟩
  exact ⟨c, off, rfl, fun i p hi => ⟨hk.cell (by simp) (hc i p hi).1, hk.cell (by simp) (hc i p hi).2⟩⟩
theorem KMap.keepC {A B : World} {M N : Nat} {K : Kn} (h : KMap A M N K) (hb : B.heap[M]? = A.heap[M]?) (hk : KeepC [] A B) : KMap B M N K := by
  obtain ⟨D, ⟨es, ck, hh, r⟩, hm⟩ := h
  exact ⟨D, ⟨es, ck, hb.trans hh, r⟩, hm.turn fun v ls hv => ⟨hv.1.keepC hk, hv.2⟩⟩
theorem marks_leave2 {F : Fence} {n : Nat} {P : Program} {fn : Func} {tmps : Array Value} {R : Ending → World → Prop} {base : Nat} : ∀ (ds : List Deferred) (u : FrameMode) (W : World), u ≠ .run → base ≤ W.heap.size → Marks base ds W →
    (∀ W', Below base W W' → KeepC [] W W' → LeavesInM F n P fn tmps R [] u W') → LeavesInM F n P fn tmps R ds u W
  | [], u, W, hu, hb, hm, h => h W (Below.refl _ _) (KeepC.refl _ _)
  | d :: ds, u, W, hu, hb, ⟨Ds, e, hnd, hD⟩, h => by
    cases Ds with
    | nil => cases e
    | cons D Ds =>
      cases e
      obtain ⟨h1, h2⟩ := hD D (by simp)
      have hnd' := List.nodup_cons.1 hnd
      have hbel : Below base W (W.putObj D (.deferred none)) := ⟨rfl, rfl, rfl, by simp [World.putObj], fun k hk => World.putObj_heap_other (fun e => by omega)⟩
      have hkc : KeepC [] W (W.putObj D (.deferred none)) := KeepC.put h2 rfl
      refine ⟨hu, .inl ⟨D, _, rfl, run_takeDeferred h2, marks_leave2 _ u _ hu (by have := hbel.size; omega) ⟨Ds, rfl, hnd'.2, fun D' hD' => ?_⟩ (fun W' hW' hk' => h W' (hbel.trans hW') (hkc.trans hk'))⟩⟩
      obtain ⟨h3, h4⟩ := hD D' (by simp [hD'])
      refine ⟨h3, ?_⟩
      rw [World.putObj_heap_other (fun e => hnd'.1 (by rw [← e]; exact hD'))]
      exact h4
theorem map_from {A B : World} {M base : Nat} (hg : A.grownBy B (some M)) (hM : M < base) : KeepsFrom base A B :=
  ⟨hg.size, fun k o hk h ho => (hg.block k (Array.getElem?_eq_some_iff.1 h).1 (fun e => by cases e; omega)).trans h⟩
theorem map_keepC {rs : List Nat} {A B : World} {M : Nat} (hm : ∃ es ck, A.heap[M]? = some (.map es ck)) (hg : A.grownBy B (some M)) : KeepC rs A B :=
  ⟨hg.os, hg.tape, hg.output, hg.size, fun k o h1 h2 _ => (hg.block k (Array.getElem?_eq_some_iff.1 h1).1 (fun e => by
    obtain ⟨es, ck, hm⟩ := hm
    cases e; rw [h1] at hm; cases hm; cases h2)).trans h1⟩
theorem map_keepsDef {A B : World} {M : Nat} (hm : ∃ es ck, A.heap[M]? = some (.map es ck)) (hg : A.grownBy B (some M)) : KeepsDef A B :=
  ⟨hg.size, fun E hE h => (hg.block E hE (fun e => by
    obtain ⟨es, ck, hm⟩ := hm
    cases e; rw [h] at hm; cases hm)).trans h⟩
def msr65 (n : Nat) (A : Act) (W : World) : Nat := ((n : Int) + 1 - slotI A 18).toNat
theorem msr65_of {n : Nat} {A : Act} {W : World} {z : Int} (h : slotI A 18 = z) : msr65 n A W = ((n : Int) + 1 - z).toNat := by unfold msr65; rw [h]
set_option maxRecDepth 100000 in
set_option maxHeartbeats 8000000 in
theorem walk65 (n b : Nat) (vt vb : Value) (th bd : List Int) (r : Rl) (hv : Vw th bd r) (hn : th.length = n + 1) (w : World) (hy : YardAt w b vt vb th bd r (bestP th bd r)) :
    Calls Try.prog 65 #[.pointer (some ⟨b, 0, none⟩)] w fun e w' => ∃ M, (e = .returned (.map (some M)) ∧ w.heap.size ≤ M ∧ KMap w' M 20000 (walkK (sF th bd r) n (n + 1))) ∧ Ext w w' := by
  refine (callsIn_wide (n := 10)).1 ?_
  obtain ⟨hl, a, cap, rfl⟩ := hy.th.shape
  obtain ⟨c0, -⟩ := hy.cells
  have hn61 := hv.most
  rw [hn] at c0 hl hn61 hy
  have hblt : b < w.heap.size := lt_of_cell c0
  have HN := Lib.hid hn; have HY := Lib.hid hy; have HV := Lib.hid hv
  have HFB := Lib.hid (show ∀ i p, p ∈ partsL (sF th bd r) n i → p.1 < 61 ∧ 0 ≤ p.2 ∧ p.2 ≤ 1099511627776 from fun i p hp => part_bd hv hp hn)
  have HPB := Lib.hid (show ∀ j, 0 ≤ (bestP th bd r).getD j 0 ∧ (bestP th bd r).getD j 0 ≤ 1099511627776 from fun j => by
    unfold bestP
    exact psK_bd _ 1099511627776 (by omega) (fun j => by have := bst_M hv (n := th.length - 1) (by omega) allB j; omega) 0 j)
  obtain ⟨F, hF⟩ : ∃ F, F = sF th bd r := ⟨_, rfl⟩
  rw [← hF] at HFB ⊢
  have HF := Lib.hid hF
  obtain ⟨W1, hW1⟩ : ∃ W1, W1 = w.alloc (.cells #[.pointer (some ⟨b, 0, none⟩)] 75) := ⟨_, rfl⟩
  have hs1 : W1.heap.size = w.heap.size + 1 := by rw [hW1]; simp
  have E1 := Lib.hid (show Ext w W1 from by rw [hW1]; exact Ext.alloc (Ext.refl w) _)
  have HB1 := Lib.hid (show Boxed W1 w.heap.size 75 (.pointer (some ⟨b, 0, none⟩)) from by rw [hW1]; exact heap_alloc_new _ _)
  obtain ⟨w2, hput, hk2, ht2⟩ := (KMap.made W1).put (by omega) 0 true (by omega) false (c := []) (ReadsLc.nil _)
  have hK0 : updK (fun _ _ => none) 0 true (some (false, [])) = walkK F n 0 := by
    funext i e; rfl
  rw [hK0] at hk2
  have hg2 := ht2.grown
  have hs2 : w2.heap.size = w.heap.size + 1 + 1 := by
    obtain ⟨es, ck, es', ck', hb, rfl⟩ := ht2
    rw [← hs1]
    simp [Go.ChangeMaps.setBlock]
  have hE2 : Ext W1 w2 := grown_new (Ext.alloc (Ext.refl W1) _) hg2 (Nat.le_refl _)
  rw [hs1] at hk2 hput
  have HW1 := Lib.hid hW1; have HS1 := Lib.hid hs1
  have HK2 := Lib.hid hk2; have HE2 := Lib.hid hE2
  have hE3 := Lib.hid (Ext.alloc hE2 (.cells #[.map (some (w.heap.size + 1))] 100))
  have cB := Boxed.cell (block_ext hE3.out HB1.out)
  have cb := cell_ext (E1.out.trans hE3.out) c0
  have HC0 := Lib.hid c0
  rw [hW1] at hput
  unfold kv at hput
  rw [show ((0 : Nat) : Int) = 0 from rfl] at hput
  have hmm := @run_makeMap Try.prog
  clear hF hn hy hv hW1 hK0 hg2 ht2 hk2 hE2 c0
  refine callsIn_of_wp_marks Try.func65 rfl trivial ?_ rfl
  simp only [Try.ntmps65, List.size_toArray, List.length_cons, List.length_nil, Nat.reduceAdd, Nat.reduceSub, Array.replicate_succ, Array.replicate_zero, List.push_toArray, List.append_toArray, List.nil_append, List.cons_append]
  gi_wp2
  clear hput hmm cb cB
  refine wpIn_loop (fun A W => ∃ (k : Nat) (ds : List Deferred), k ≤ n + 1 ∧ Fr65 b w.heap.size (w.heap.size + 1 + 1) n k ds A ∧ slotI A 18 = k ∧ Hid (∃ N, N ≤ 1 + 200 * k ∧ KMap W (w.heap.size + 1) N (walkK F n k)) ∧ Hid (Ext W1 W) ∧ Hid (Boxed W (w.heap.size + 1 + 1) 100 (.map (some (w.heap.size + 1)))) ∧ Hid (Marks (w.heap.size + 1 + 1) ds W))
    (fun A W => msr65 n A W) ?start ?round
  case start =>
    exact ⟨0, [], by omega, Fr65.mk, rfl, Lib.hid ⟨_, by omega, HK2.out.ext (Ext.alloc (Ext.refl _) _)⟩, hE3, Lib.hid (by have := heap_alloc_new w2 (.cells #[.map (some (w.heap.size + 1))] 100); rw [hs2] at this; exact this), Lib.hid (Marks.nil _ _)⟩
  case round =>
    rintro A W ⟨k, ds, hk, ⟨x2, x4, x5, x6, x7, x8, x9, x10, x11, x12, x13, x14, x15, x16, x19, x20, x21, x22, x23, x24, x25, x26, x27, x28, x29, x30, x31, x32, x33, x34, x35, x36, x37, x38, x39, x40, x41, x42, x43, rfl⟩, -, hK, hE, hB3, hM⟩
    by_cases hk1 : k < n + 1
    · have hkk := (k, k)
      obtain ⟨N, hN, hKM⟩ := hK.out
      obtain ⟨v, hrl, hlook0⟩ := hKM.look k true (by omega)
      obtain ⟨hcl, ac, capc, rfl, hcc⟩ := hrl.shape
      have hlook := hlook0 W (Ext.refl _)
      clear hlook0
      unfold kv at hlook
      obtain ⟨nc, hnc⟩ : ∃ m, m = (lgI (cutK (walkK F n k) k true)).length := ⟨_, rfl⟩
      rw [← hnc] at hlook hrl hcl
      obtain ⟨c, hcd⟩ : ∃ c, c = cutK (walkK F n k) k true := ⟨_, rfl⟩
      have hcl3 : c.length ≤ 3000 := by have := cutK_len F n k; rw [← hcd] at this; omega
      rw [← hcd] at hrl
      have HCD := Lib.hid hcd
      have HRL := Lib.hid hrl; have HKM := Lib.hid hKM
      have b3 := hB3.out.cell
      have b1 := Boxed.cell (block_ext hE.out HB1.out)
      have hkw : IntKind.i64.wrap ((k : Int) + 1) = (k : Int) + 1 := wrapi64 _ (by omega) (by omega)
      have hki : (k : Int) < (n : Int) + 1 := by omega
      clear hrl hKM hkk hnc hcc hcd
      generalize hfl : flK (walkK F n k) k true = fl at *
      cases hks : (walkK F n k k true).isSome
      · rw [hks] at hlook
        have HST := Lib.hid (step_none (f := F) (n := n) hks)
        rw [← walkK_succ] at HST
        clear hks hfl
        gi_wp2
        rw [show (k : Int) + 1 = ((k + 1 : Nat) : Int) from by omega]
        have hEA := Ext.alloc (Ext.refl W) (.cells #[.bool fl, .slice ac nc capc] 99)
        refine ⟨⟨k + 1, ds, by omega, Fr65.mk, rfl, Lib.hid ?_, Lib.hid (hE.out.trans hEA), Lib.hid (block_ext hEA hB3.out), Lib.hid (hM.out.ext hEA)⟩, ?_⟩
        · rw [HST.out]; exact ⟨N, by omega, HKM.out.ext hEA⟩
        · rw [msr65_of (z := ((k + 1 : Nat) : Int)) rfl, msr65_of (z := (k : Int)) rfl]; omega
      · rw [hks] at hlook
        have HST := Lib.hid (step_some (f := F) (n := n) hks)
        rw [← walkK_succ, ← HCD.out] at HST
        have b1u := cell_ext (Ext.alloc (Ext.refl W) (.cells #[.bool fl, .slice ac nc capc] 99)) b1
        clear hks hfl
        gi_wp2_with fail
        refine ⟨trivial, (callsIn_wide.2 (parts80 b k _)).mono ?_⟩
        rintro e w3 ⟨rfl, rfl⟩
        gi_wp2
        clear b1 b3 b1u hlook
        have hE0 : Ext W (((W.alloc (.cells #[.bool fl, .slice ac nc capc] 99)).alloc (.cells #[.pointer (some ⟨b, 0, none⟩)] 75)).alloc (.cells #[.int .i64 (k : Int)] 3)) := Ext.alloc (Ext.alloc (Ext.alloc (Ext.refl W) _) _) _
        have cBh := block_ext (Ext.alloc (Ext.alloc (Ext.refl (W.alloc (.cells #[.bool fl, .slice ac nc capc] 99))) (.cells #[.pointer (some ⟨b, 0, none⟩)] 75)) (.cells #[.int .i64 (k : Int)] 3)) (heap_alloc_new W (.cells #[.bool fl, .slice ac nc capc] 99))
        have cBy : (((W.alloc (.cells #[.bool fl, .slice ac nc capc] 99)).alloc (.cells #[.pointer (some ⟨b, 0, none⟩)] 75)).alloc (.cells #[.int .i64 (k : Int)] 3)).cell? ⟨W.heap.size + 1, 0, none⟩ = some (.pointer (some ⟨b, 0, none⟩)) := cell_ext (Ext.alloc (Ext.refl _) _) (World.cell?_alloc_at _ _ _ _ (by simp))
        have cBp : (((W.alloc (.cells #[.bool fl, .slice ac nc capc] 99)).alloc (.cells #[.pointer (some ⟨b, 0, none⟩)] 75)).alloc (.cells #[.int .i64 (k : Int)] 3)).cell? ⟨W.heap.size + 1 + 1, 0, none⟩ = some (.int .i64 (k : Int)) := World.cell?_alloc_at _ _ _ _ (by simp)
        have hs0 : (((W.alloc (.cells #[.bool fl, .slice ac nc capc] 99)).alloc (.cells #[.pointer (some ⟨b, 0, none⟩)] 75)).alloc (.cells #[.int .i64 (k : Int)] 3)).heap.size = W.heap.size + 3 := by simp
        obtain ⟨W0, hW0⟩ : ∃ W0, ((W.alloc (.cells #[.bool fl, .slice ac nc capc] 99)).alloc (.cells #[.pointer (some ⟨b, 0, none⟩)] 75)).alloc (.cells #[.int .i64 (k : Int)] 3) = W0 := ⟨_, rfl⟩
        rw [hW0] at hE0 cBy cBp hs0 cBh ⊢
        clear hW0
        have hT0 := hE.out.trans hE0
        have hB0 : Boxed W0 (w.heap.size + 1 + 1) 100 (.map (some (w.heap.size + 1))) := block_ext hE0 hB3.out
        have hM0 := hM.out.ext hE0
        have hlt4 := hB3.out.lt
        have hsz := hE.out.size
        refine wpIn_rangeFunc_ownH rfl (by omega) (gf := 90) (lb := #[.pointer (some ⟨W.heap.size + 1 + 1, 0, none⟩), .pointer (some ⟨W.heap.size + 1, 0, none⟩)]) rfl trivial (enters_of Try.func90 (by kernel_rfl) rfl)
          (parts_stops F n 9 (W.heap.size + 1 + 1) (W.heap.size + 1) b k _ vb th bd r _ [] HV.out HF.out HN.out (by omega) W1 (HY.out.ext E1.out) W0 hT0 (fun r hr => by cases hr) ⟨(fun h => by cases h), (fun h => by cases h)⟩ (by omega) cBp cBy) KeepC.trans (fun W l o o' _ h1 h2 h3 => KeepC.put h1 h2) (Below.refl _ _) (fun _ => rfl)
          (fun pre W' => (∃ N, N ≤ 1 + 200 * k + 2 * pre.length ∧ KMap W' (w.heap.size + 1) N (placeK F n (walkK F n k) k (pv F n k pre) c)) ∧ Ext W1 W' ∧ Boxed W' (w.heap.size + 1 + 1) 100 (.map (some (w.heap.size + 1))) ∧ W'.heap[W.heap.size]? = some (.cells #[.bool fl, .slice ac nc capc] 99 (0, 0)) ∧ ReadsLc W' (.slice ac nc capc) (lgI c) ∧ KeepsDef W0 W')
          (fun _ _ _ => False)
          ?hI (fun _ _ _ _ _ h _ _ => h) ⟨⟨N, by simpa using hN, HKM.out.ext hE0⟩, hT0, hB0, cBh, HRL.out.ext hE0, KeepsDef.refl _⟩
          (fun x a' W' => ∃ Bx, W0.heap.size ≤ Bx ∧ W'.heap[Bx]? = some (.cells #[.int .i64 (k : Int), .int .i64 (x.1.1 : Int), .int .i64 x.1.2] 110 (0, 0)) ∧ a' = { tmps := #[.pointer (some ⟨b, 0, none⟩), .pointer (some ⟨w.heap.size, 0, none⟩), x2, .pointer (some ⟨w.heap.size + 1 + 1, 0, none⟩), .int .i64 (k : Int), .pointer (some ⟨W.heap.size, 0, none⟩), .bool true, .pointer (some ⟨Bx, 0, none⟩), x8, x9, x10, x11, x12, x13, x14, x15, x16, .int .i64 ((n : Int) + 1), .int .i64 (k : Int), .bool true, .int .i64 (k : Int), .tuple #[.agg #[.bool fl, .slice ac nc capc], .bool true], .map (some (w.heap.size + 1)), .int .i64 (k : Int), .agg #[.int .i64 (k : Int), .bool true], .tuple #[.agg #[.bool fl, .slice ac nc capc], .bool true], .agg #[.bool fl, .slice ac nc capc], .bool true, .bool true, .bool false, .pointer (some ⟨b, 0, none⟩), .int .i64 (k : Int), .func (.func 90) #[] #[.pointer (some ⟨W.heap.size + 1 + 1, 0, none⟩), .pointer (some ⟨W.heap.size + 1, 0, none⟩)], .agg #[.int .i64 (k : Int), .int .i64 (x.1.1 : Int), .int .i64 x.1.2], x34, x35, x36, x37, x38, x39, x40, x41, x42, x43], defers := [] })
          ?hAx ?assign ?body ?done ?stop
        case hI => exact fun s A B row hs hg hr => ⟨let ⟨N, h1, h2⟩ := hs.1; ⟨N, h1, h2.turn (by omega) hg hr⟩, ext_turn hs.2.1 (by omega) hg hr, boxed_turn hs.2.2.1 hg hr, cells_turn hs.2.2.2.1 hg hr, hs.2.2.2.2.1.turn hg hr, hs.2.2.2.2.2.turn (Nat.le_refl _) hg hr⟩
        case hAx => exact fun x a' s A B row hs hg hr => let ⟨Bx, h1, h2, h3⟩ := hs; ⟨Bx, h1, cells_turn h2 hg hr, h3⟩
        case assign =>
          rintro l pre x W' K ⟨⟨N1, h1, h1'⟩, h2, h3, h4, h5, h6⟩ hK
          dsimp only [encT]
          gi_wp2
          have hEA := (Ext.refl W').alloc (.cells #[.int .i64 (k : Int), .int .i64 (x.1.1 : Int), .int .i64 x.1.2] 110)
          exact hK _ _ ((KeepsOthers.alloc _ _).from _) (KeepC.ext hEA) ⟨⟨N1, h1, h1'.ext hEA⟩, h2.trans hEA, h3.alloc _, block_ext hEA h4, h5.ext hEA, h6.trans (KeepsDef.others (KeepsOthers.alloc _ _))⟩ ⟨W'.heap.size, by have := h6.1; omega, heap_alloc_new _ _, rfl⟩
        case body =>
          rintro l pre x a' W' hlw ⟨rr, hrl⟩ ⟨⟨N1, h1, h1'⟩, h2, h3, h4, h5, h6⟩ ⟨Bx, hBx, bX, rfl⟩ hlt
          have hsnoc := place_snoc F n (walkK F n k) k (pv F n k pre) c x.1
          have hpv := pv_snoc F n k pre x
          obtain ⟨⟨j, y⟩, hx⟩ := x
          dsimp only at bX hsnoc hpv ⊢
          have hxb := HFB.out k (j, y) hx
          dsimp only at hxb
          have y81 := best81 b _ vb th bd r _ k j y W' ((HY.out.ext E1.out).ext h2) (by omega) hxb.1 hxb.2 (HPB.out _)
          rw [best_bool HN.out (by omega) hxb.1, ← HF.out] at y81
          have HPV := Lib.hid hpv
          have HT := Lib.hid h2; have HKD := Lib.hid h6; have HX := Lib.hid bX; have H3 := Lib.hid h3; have H4 := Lib.hid h4; have H5 := Lib.hid h5; have H1 := Lib.hid h1'; have HRL2 := Lib.hid hrl
          have b1 := Boxed.cell (block_ext h2 HB1.out)
          have p0 : W'.cell? ⟨Bx, 0, none⟩ = some (.int .i64 (k : Int)) := cell_of_blk bX rfl
          have p1 : W'.cell? ⟨Bx, 1, none⟩ = some (.int .i64 (j : Int)) := cell_of_blk bX rfl
          have p2 : W'.cell? ⟨Bx, 2, none⟩ = some (.int .i64 y) := cell_of_blk bX rfl
          clear h1' h2 h3 h4 h5 h6 bX hrl hpv
          cases hbb : bestB F n k (j, y)
          · rw [hbb] at y81 hsnoc
            have HSN := Lib.hid hsnoc
            have H81 := Lib.hid y81
            clear y81 hsnoc hbb
            gi_wp2_with fail
            refine ⟨trivial, (CallsIn.inRound l (callsIn_wide.2 H81.out)).mono ?_⟩
            rintro e X1 ⟨rfl, hb⟩
            have HEX := Lib.hid hb
            clear hb b1 p0 p1 p2
            gi_wp2
            refine ⟨(ext_keeps HEX.out).from _, KeepC.ext HEX.out, ⟨⟨N1, by rw [List.length_append]; omega, ?_⟩, HT.out.trans HEX.out, block_ext HEX.out H3.out, block_ext HEX.out H4.out, H5.out.ext HEX.out, HKD.out.trans (KeepsDef.others (ext_keeps HEX.out))⟩⟩
            rw [HPV.out, HSN.out]; exact H1.out.ext HEX.out
          · rw [hbb] at y81 hsnoc
            have HSN := Lib.hid hsnoc
            have H81 := Lib.hid y81
            clear y81 hsnoc hbb
            gi_wp2_with fail
            refine ⟨trivial, (CallsIn.inRound l (callsIn_wide.2 H81.out)).mono ?_⟩
            rintro e X1 ⟨rfl, hb⟩
            have HEX := Lib.hid hb
            have HK1 := Lib.hid (H1.out.ext hb)
            have r0 := cell_ext hb p0; have r1 := cell_ext hb p1; have r2 := cell_ext hb p2
            have b3 := Boxed.cell (block_ext hb H3.out)
            have s1 : X1.cell? ⟨W.heap.size, 1, none⟩ = some (.slice ac nc capc) := cell_of_blk (block_ext hb H4.out) rfl
            have H82 := Lib.hid (note82 (w.heap.size + 1) N1 _ k j y (.slice ac nc capc) c X1 HK1.out (by omega) (by omega) (by omega) (H5.out.ext hb) hcl3)
            clear hb b1 p0 p1 p2
            gi_wp2_with fail
            refine ⟨trivial, (CallsIn.inRound l (callsIn_wide.2 H82.out)).mono ?_⟩
            rintro e X2 ⟨rfl, hk2, hg2⟩
            have HG2 := Lib.hid hg2; have HK3 := Lib.hid hk2
            clear hk2 hg2 r0 r1 r2 b3 s1
            gi_wp2
            have h3x : Boxed X1 (w.heap.size + 1 + 1) 100 (.map (some (w.heap.size + 1))) := block_ext HEX.out H3.out
            have h4x := block_ext HEX.out H4.out
            have h3l := h3x.lt
            have h4l := (Array.getElem?_eq_some_iff.1 h4x).1
            refine ⟨⟨Nat.le_trans HEX.out.size HG2.out.size, fun k o hk h ho => (map_from (base := W0.heap.size) HG2.out (by omega)).same k o hk (block_ext HEX.out h) ho⟩, (KeepC.ext HEX.out).trans (map_keepC HK1.out.blk HG2.out), ⟨⟨N1 + 2, by rw [List.length_append]; simp; omega, ?_⟩, grown_new (HT.out.trans HEX.out) HG2.out (by omega), (other_blk HG2.out (by omega) h3l).trans h3x, (other_blk HG2.out (by omega) h4l).trans h4x, (H5.out.ext HEX.out).grown HK1.out.blk HG2.out, (HKD.out.trans (KeepsDef.others (ext_keeps HEX.out))).trans (map_keepsDef HK1.out.blk HG2.out)⟩⟩
            rw [HPV.out, HSN.out]; exact HK3.out
        case done =>
          rintro D ys W' hD hS ⟨⟨N1, h1, h1'⟩, h2, h3, h4, h5, h6⟩ hDW
          have hpl := pv_len F n k ys
          rw [show pv F n k ys = partsL F n k from hS] at h1' hpl
          rw [← HST.out] at h1'
          have hll := parts_len F n k
          have hM2 := Marks.cons hM0 hD (by omega) hDW h6.2
          have HK2' := Lib.hid h1'; have HM2 := Lib.hid hM2; have HT2 := Lib.hid h2; have H3 := Lib.hid h3
          clear h1' h2 h3 h4 h5 h6 hDW hM2 hM0 hT0 hB0 cBy cBp cBh hS
          gi_wp2
          rw [show (k : Int) + 1 = ((k + 1 : Nat) : Int) from by omega]
          refine ⟨⟨k + 1, _, by omega, Fr65.mk, rfl, Lib.hid ⟨N1, by omega, HK2'.out⟩, HT2, H3, HM2⟩, ?_⟩
          rw [msr65_of (z := ((k + 1 : Nat) : Int)) rfl, msr65_of (z := (k : Int)) rfl]; omega
        case stop =>
          rintro D c pre W _ _ h _
          exact h.elim
    · obtain rfl : k = n + 1 := by omega
      have b3 := hB3.out.cell
      obtain ⟨N, hN, hKM⟩ := hK.out
      have HKM := Lib.hid hKM
      have hki : ¬ (((n + 1 : Nat) : Int) < (n : Int) + 1) := by omega
      have hlt4 := hB3.out.lt
      have hE2' := Lib.hid (E1.out.trans hE.out)
      clear hKM hK
      gi_wp2
      refine marks_leave2 _ _ _ (by simp) (by omega) hM.out (fun W' hW' hk' => ?_)
      refine ⟨_, results_tmp rfl _ _ _, ⟨_, rfl, ?_, (HKM.out.keepC (hW'.block _ (by omega)) hk').more (by omega)⟩, ?_⟩
      · omega
      · exact Below.trans hE2'.out (hW'.mono (by omega))
end Go.Proofs.Ytcgheakadfjofaa
namespace Go.Proofs.Ytcgheakadfjofaa
open Go.RowKit Go.Maps Go.Shelf
set_option linter.unusedVariables false
set_option linter.unusedSimpArgs false
attribute [local go_sem] Oper.semAt_some
/-- What is left of the spots: those that are still to come, and those at which a log begins or ends. -/
def keepK (K : Kn) (left : Lit → Bool) : Kn := fun i e => if (left (ks i e) || flK K i e) = true then K i e else none
theorem KIs.congr {w : World} {D : DataW Value} {K K' : Kn} (h : KIs w D K) (he : ∀ i e, i < 1000 → K i e = K' i e) : KIs w D K' :=
  ⟨h.1, fun i e hi => by rw [← he i e hi]; exact h.2.1 i e hi, h.2.2⟩
theorem keepK_start {w : World} {D : DataW Value} {K : Kn} (h : KIs w D K) : KIs w D (keepK K (has D)) := h.congr fun i e hi => by
  unfold keepK
  by_cases hc : (has D (ks i e) || flK K i e) = true
  · rw [if_pos hc]
  · rw [if_neg hc]
    have h1 : has D (ks i e) = false := by cases hh : has D (ks i e) with | false => rfl | true => rw [hh] at hc; simp at hc
    rw [(h.2.1 i e hi).1] at h1
    cases hk : K i e with
    | none => rfl
    | some x => rw [hk] at h1; cases h1
theorem ks_same (i j : Nat) (e d : Bool) : (ks i e).sameKey (ks j d) = true ↔ ks i e = ks j d := by
  simp [ks, Lit.sameKey]
theorem left_other {left : Lit → Bool} {i j : Nat} {e d : Bool} (hi : i < 1000) (hj : j < 1000) (h : ¬ (j = i ∧ d = e)) : (left (ks j d) && !(ks j d).sameKey (ks i e)) = left (ks j d) := by
  have : (ks j d).sameKey (ks i e) = false := by
    cases hs : (ks j d).sameKey (ks i e) with
    | false => rfl
    | true => exact absurd (ks_inj hj hi ((ks_same j i d e).1 hs)) h
  rw [this]; simp
theorem left_self {left : Lit → Bool} {i : Nat} {e : Bool} : (left (ks i e) && !(ks i e).sameKey (ks i e)) = false := by
  rw [(ks_same i i e e).2 rfl]; simp
theorem keepK_stay {w : World} {D : DataW Value} {K : Kn} {left : Lit → Bool} (h : KIs w D (keepK K left)) {i : Nat} {e : Bool} (hi : i < 1000) (hf : flK K i e = true) : KIs w D (keepK K (fun z => left z && !z.sameKey (ks i e))) := h.congr fun j d hj => by
  unfold keepK
  by_cases q : j = i ∧ d = e
  · obtain ⟨rfl, rfl⟩ := q
    rw [hf]; simp
  · show _ = if ((left (ks j d) && !(ks j d).sameKey (ks i e)) || flK K j d) = true then K j d else none
    rw [left_other hi hj q]
theorem keepK_del {w : World} {D : DataW Value} {K : Kn} {left : Lit → Bool} (h : KIs w D (keepK K left)) {i : Nat} {e : Bool} (hi : i < 1000) (hf : flK K i e = false) : KIs w (D.del (ks i e)) (keepK K (fun z => left z && !z.sameKey (ks i e))) := (h.del e hi).congr fun j d hj => by
  unfold updK keepK
  by_cases q : j = i ∧ d = e
  · obtain ⟨rfl, rfl⟩ := q
    rw [if_pos ⟨rfl, rfl⟩]
    show _ = if ((left (ks j d) && !(ks j d).sameKey (ks j d)) || flK K j d) = true then K j d else none
    rw [left_self, hf]; rfl
  · rw [if_neg q]
    show _ = if ((left (ks j d) && !(ks j d).sameKey (ks i e)) || flK K j d) = true then K j d else none
    rw [left_other hi hj q]
theorem keepK_some {K : Kn} {left : Lit → Bool} (hl : ∀ kl, left kl = false) (i : Nat) (e : Bool) : (keepK K left i e).isSome = flK K i e := by
  unfold keepK
  rw [hl, Bool.false_or]
  cases hf : flK K i e with
  | false => rfl
  | true =>
    rw [if_pos rfl]
    unfold flK at hf
    cases hk : K i e with
    | none => rw [hk] at hf; cases hf
    | some x => rfl
theorem keepK_fl {K : Kn} {left : Lit → Bool} {i : Nat} {e l : Bool} {c : List (Nat × Nat)} (h : keepK K left i e = some (l, c)) : flK K i e = l := by
  have h2 : K i e = some (l, c) := by
    unfold keepK at h
    cases hc : (left (ks i e) || flK K i e) with
    | false => rw [hc] at h; cases h
    | true => rw [hc, if_pos rfl] at h; exact h
  unfold flK
  rw [h2]
set_option maxRecDepth 100000 in
set_option maxHeartbeats 8000000 in
theorem may69 (n b x : Nat) (vt vb : Value) (th bd : List Int) (r : Rl) (hv : Vw th bd r) (hn : th.length = n + 1) (w : World) (hy : YardAt w b vt vb th bd r (bestP th bd r)) (hx : x < 1000) :
    Calls Try.prog 69 #[.pointer (some ⟨b, 0, none⟩), .int .i64 (x : Int)] w fun e w' => e = .returned (.bool (cutsB (sF th bd r) n x)) ∧ Ext w w' := by
  have H65 := Lib.hid (walk65 n b vt vb th bd r hv hn w hy)
  have HMAY := Lib.hid (walk_may (sF th bd r) n x)
  obtain ⟨K, hK⟩ : ∃ K, K = walkK (sF th bd r) n (n + 1) := ⟨_, rfl⟩
  rw [← hK] at H65 HMAY
  generalize cutsB (sF th bd r) n x = cu at *
  clear hv hn hy hK
  go_enter Try.func69, Try.ntmps69
  go_wp2_with fail
  refine H65.out.mono ?_
  rintro e w1 ⟨M, ⟨rfl, hM, hk⟩, hb⟩
  obtain ⟨D, hown, hki⟩ := hk
  have HKI := Lib.hid (keepK_start hki); have HB := Lib.hid hb
  have hbs := hb.size
  clear hki hb
  go_wp2_with (at_range; refine wpList_range_own _ rfl _ 100 rfl 103 99 keyed103 Try.underlying100 _ M 20000 _ rfl hown ?_; intro w0 hrg0 hg0 hs0)
  have HB0 := Lib.hid (show Ext w w0 from HB.out.trans ⟨hg0.os, hg0.tape, hg0.output, hg0.size, fun i hi => hg0.block i hi (by simp)⟩)
  have HKI0 := Lib.hid (HKI.out.turn fun v ls h => h.ext (show Ext w1 w0 from ⟨hg0.os, hg0.tape, hg0.output, hg0.size, fun i hi => hg0.block i hi (by simp)⟩))
  clear hg0 hs0 HKI HB hown
  go_frame
  go_loopw [6] (fun _ wr => ∃ (left : Lit → Bool) (cnt : Nat) (D' : DataW Value), wr.ranges Try.prog 103 RH M w1.heap.size 20000 D' left cnt ∧ Hid (KIs wr D' (keepK K left)) ∧ Hid (Ext w wr))
    (fun _ wr => wr.rangeLeft M w1.heap.size)
  case atStart => exact ⟨_, _, _, hrg0, HKI0, HB0⟩
  case round =>
    obtain ⟨left, cnt, D', hrg, HK, HE⟩ := hrel
    clear hrg0 HKI0 HB0
    go_wp2_with (at_next; refine wpList_next_ranges _ rfl _ rfl 103 keyed103 RH (fun v : Value => v) (fun v : Value => v) (fun key kl hk => ⟨key, rfl⟩) (fun v _ _ => ⟨v, rfl⟩) M w1.heap.size 20000 _ _ _ rfl hrg ?_ ?_)
    · intro hc0 hl0
      have hkm : KMap wr M 20000 (keepK K left) := ⟨D', hrg.owns, HK.out⟩
      have s1 := keepK_some hl0 (K := K) x false
      have s2 := keepK_some hl0 (K := K) x true
      obtain ⟨v1, hr1, hl1⟩ := hkm.look x false hx
      obtain ⟨v2, hr2, hl2⟩ := hkm.look x true hx
      obtain ⟨-, a1, c1, rfl, -⟩ := hr1.shape
      obtain ⟨-, a2, c2, rfl, -⟩ := hr2.shape
      unfold kv at hl1 hl2
      rw [s1] at hl1
      rw [s2] at hl2
      generalize (lgI (cutK (keepK K left) x false)).length = m1 at *
      generalize (lgI (cutK (keepK K left) x true)).length = m2 at *
      generalize flK (keepK K left) x false = f1 at *
      generalize flK (keepK K left) x true = f2 at *
      have HC := Lib.hid (show cu = (flK K x false || flK K x true) from HMAY.out.symm)
      generalize flK K x false = g1 at *
      generalize flK K x true = g2 at *
      have hlk1 := hl1 wr (Ext.refl _)
      have hlk2 := hl2 (wr.alloc (.cells #[.bool f1, .slice a1 m1 c1] 99)) (Ext.alloc (Ext.refl _) _)
      have HEE := Lib.hid (Ext.alloc (Ext.alloc HE.out (.cells #[.bool f1, .slice a1 m1 c1] 99)) (.cells #[.bool f2, .slice a2 m2 c2] 99))
      clear hrg hl0 hc0 hkm hr1 hr2 hl1 hl2 s1 s2 HMAY HK
      cases g1
      · go_wp2
        go_ret
        exact ⟨ret_bool (by rw [HC.out]; rfl), HEE.out⟩
      · go_wp2
        go_ret
        exact ⟨ret_bool (by rw [HC.out]; rfl), HEE.out⟩
    · intro key v kl yd yp w2 cnt2 hkey hlk hv hat hrg2 hlt hg2 hs2 hen
      have hh := has_true_of_atKey hat
      obtain ⟨i, e', hi, rfl⟩ := HK.out.2.2 kl hh
      obtain rfl : key = kv i e' := keyed103.inj hkey (ks_eq i e' hi)
      obtain ⟨h1, h2⟩ := HK.out.2.1 i e' hi
      rw [hh] at h1
      obtain ⟨⟨l, c⟩, hkc⟩ := Option.isSome_iff_exists.1 h1.symm
      obtain ⟨v', hat', hrl⟩ := h2 l c hkc
      have hyd : yd = .held v := by
        have := congrArg (Option.map Prod.fst) hv
        simpa [RH] using this.symm
      have hvv := (hat' yd).symm.trans (hat yd)
      rw [hyd] at hvv
      obtain rfl : v = .agg #[.bool l, v'] := by cases hvv; rfl
      have hf := keepK_fl hkc
      obtain ⟨o, ho, hwk⟩ := hrg.iter_walk
      have hrr : ∀ r, some w1.heap.size = some r → w1.heap.size ≤ r ∧ ∃ o : Obj, wr.heap[r]? = some o ∧ o.isCells = false := fun r e => by cases e; exact ⟨Nat.le_refl _, o, ho, Obj.not_cells_of_walk hwk⟩
      have HK2 := Lib.hid (HK.out.turn (w' := w2) fun v ls h => h.turn hg2 hrr)
      have HE2 := Lib.hid (grown_new HE.out hg2 hbs)
      obtain ⟨-, a', cap', rfl, -⟩ := hrl.shape
      generalize (lgI c).length = m at *
      have hle := hrg.left_eq
      have hE3 := Lib.hid (Ext.alloc (Ext.alloc (Ext.refl w2) (.cells #[.int .i64 (i : Int), .bool e'] 103)) (.cells #[.bool l, .slice a' m cap'] 99))
      have HRG3 := Lib.hid ((hrg2.alloc (.cells #[.int .i64 (i : Int), .bool e'] 103)).alloc (.cells #[.bool l, .slice a' m cap'] 99))
      clear hrr HK HE hrl hyd hvv hat hat' hv h1 h2 hkc hh hrg hrg2 hkey hg2 hs2 ho hwk
      dsimp only [kv] at hen ⊢
      cases l
      · have HKD := Lib.hid (keepK_del HK2.out hi hf)
        clear hf
        go_wp2_with (at_delete; refine wpList_delete_ranges _ rfl _ _ 100 103 rfl 99 keyed103 Try.underlying100 _ M w1.heap.size 20000 _ _ _ rfl HRG3.out (kv i e') (ks i e') rfl (ks_eq i e' hi) ?_; intro w5 cnt5 hrg5 hc5 ht5)
        have HE5 := Lib.hid (grown_new (HE2.out.trans hE3.out) ht5.grown hM)
        have HK5 := Lib.hid (HKD.out.turn (w' := w5) fun v ls h => (h.ext hE3.out).mapTurned ht5)
        go_frame
        go_roundw
        case rel => exact ⟨_, _, _, hrg5, (by rw [show (fun z : Lit => left z && !z.sameKey (ks i e') && !z.sameKey (ks i e')) = (fun z => left z && !z.sameKey (ks i e')) from by funext z; rw [Bool.and_assoc, Bool.and_self]]; exact HK5), HE5⟩
        case measure => rw [hrg5.left_eq, hle]; omega
      · have HKD := Lib.hid ((keepK_stay HK2.out hi hf).turn fun v ls h => h.ext hE3.out)
        clear hf
        go_wp2
        go_roundw
        case rel => exact ⟨_, _, _, HRG3.out, HKD, Lib.hid (HE2.out.trans hE3.out)⟩
        case measure => rw [HRG3.out.left_eq, hle]; exact hlt
end Go.Proofs.Ytcgheakadfjofaa
