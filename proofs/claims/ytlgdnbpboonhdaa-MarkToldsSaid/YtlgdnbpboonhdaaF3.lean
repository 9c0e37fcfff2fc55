/- The marks that are asked for: ask, where all is well. -/
import Derived.Test.YtlgdnbpboonhdaaF2
import Derived.Test.YtlgdnbpboonhdaaF0
namespace Go.Proofs.Ytlgdnbpboonhdaa
open Go.RowKit Go.Shelf Go.Maps
set_option linter.unusedVariables false
attribute [local go_sem] Oper.semAt_some
theorem ent100 (args : Array Value) (W : World) : (callFunc 100 args).run Try.prog W = .ok (.enter 100 args) W := by simp [callFunc, Try.func100, go_sem]; rfl
/-- The indexes of the marks that are free, and the pairs of them that clash. -/
def freeIx (ms : List Nat) (L : Nat) (qs : List Nat) : List Nat := pickL 0 qs.length fun i => untakenB (mAt qs i) L (freeT ms L)
def askF (ms : List Nat) (L : Nat) (qs : List Nat) (p : Nat × Nat) : Option Nat := if p.1 ∈ freeIx ms L qs ∧ p.2 ∈ freeIx ms L qs then clF qs L (pairsL qs.length) p else none
theorem block_turn {A B : World} {k bt : Nat} {o : Obj} (hg : A.grownBy B (some bt)) (h : A.heap[k]? = some o) (hne : k ≠ bt) : B.heap[k]? = some o :=
  (hg.block k (Array.getElem?_eq_some_iff.1 h).1 (fun e => hne (Option.some.inj e))).trans h
theorem Reads.setOther {W : World} {v c y : Value} {xs : List Int} {b o : Nat} (h : Reads W v xs) (hc : W.cell? ⟨b, o, none⟩ = some c) (hn : ∀ k, c ≠ .int .i64 k) : Reads (W.setCell ⟨b, o, none⟩ y) v xs := by
  obtain ⟨hl, a, cap, rfl, h⟩ := h
  refine ⟨hl, a, cap, rfl, h.imp id ?_⟩
  rintro ⟨g, off, rfl, hg⟩
  refine ⟨g, off, rfl, fun i hi => ?_⟩
  refine (World.cell?_setCell_other _ _ _ _ (fun e => ?_)).trans (hg i hi)
  have h1 := hg i hi
  rw [← e, hc] at h1
  exact hn _ (Option.some.inj h1)
theorem MapIs.congr {D : DataW Unit} {f f' : Nat × Nat → Option Nat} (h : MapIs D f) (e : ∀ a b, a < 1000 → b < 1000 → f (a, b) = f' (a, b)) : MapIs D f' :=
  ⟨h.1, fun a b ha hb => by rw [← e a b ha hb]; exact h.2.1 a b ha hb, h.2.2⟩
/-- What the map holds while the loop runs: what is still to come, and what stays. -/
def keepF (fi : List Nat) (g : Nat × Nat → Option Nat) (left : Lit → Bool) (p : Nat × Nat) : Option Nat := if (left (kp p) || (decide (p.1 ∈ fi) && decide (p.2 ∈ fi))) = true then g p else none
theorem keepF_start {D : DataW Unit} {g : Nat × Nat → Option Nat} (h : MapIs D g) (fi : List Nat) : MapIs D (keepF fi g (has D)) := h.congr fun a b ha hb => by
  unfold keepF
  rw [(h.2.1 a b ha hb).1]
  cases g (a, b) <;> simp
theorem keepF_stay {D : DataW Unit} {g : Nat × Nat → Option Nat} {fi : List Nat} {left : Lit → Bool} (h : MapIs D (keepF fi g left)) {p : Nat × Nat} (hp : p.1 < 1000 ∧ p.2 < 1000) (hf : p.1 ∈ fi ∧ p.2 ∈ fi) : MapIs D (keepF fi g (fun z => left z && !z.sameKey (kp p))) := h.congr fun a b ha hb => by
  unfold keepF
  by_cases e : (a, b) = p
  · rw [e]; simp [hf]
  · have : (kp (a, b)).sameKey (kp p) = false := by
      rw [Bool.eq_false_iff]; intro hh; exact e (kp_inj' ⟨ha, hb⟩ hp ((sameKey_kp _ _).1 hh))
    simp [this]
theorem keepF_del {D : DataW Unit} {g : Nat × Nat → Option Nat} {fi : List Nat} {left : Lit → Bool} (h : MapIs D (keepF fi g left)) {p : Nat × Nat} (hp : p.1 < 1000 ∧ p.2 < 1000) (hf : ¬ (p.1 ∈ fi ∧ p.2 ∈ fi)) : MapIs (D.del (kp p)) (keepF fi g (fun z => left z && !z.sameKey (kp p))) := (h.del p hp).congr fun a b ha hb => by
  by_cases e : (a, b) = p
  · rw [if_pos e, e]
    unfold keepF
    have h2 : (kp p).sameKey (kp p) = true := (sameKey_kp p p).2 rfl
    rw [if_neg]
    simp only [h2, Bool.not_true, Bool.and_false, Bool.false_or, Bool.and_eq_true, decide_eq_true_eq]
    exact hf
  · rw [if_neg e]
    unfold keepF
    have : (kp (a, b)).sameKey (kp p) = false := by
      rw [Bool.eq_false_iff]; intro hh; exact e (kp_inj' ⟨ha, hb⟩ hp ((sameKey_kp _ _).1 hh))
    simp [this]
theorem keepF_end {D : DataW Unit} {g : Nat × Nat → Option Nat} {fi : List Nat} {left : Lit → Bool} (h : MapIs D (keepF fi g left)) (hl : ∀ kl, left kl = false) : MapIs D (fun p => if p.1 ∈ fi ∧ p.2 ∈ fi then g p else none) := h.congr fun a b ha hb => by
  unfold keepF
  rw [hl]
  simp
/-- What lies beside the map while the loop runs. -/
def Side79 (w : World) (Ba : Nat) (r2 u m : Value) (fi : List Nat) (x : World) : Prop :=
  x.heap[Ba]? = some (.cells #[r2, u, m] 93 (0, 0)) ∧ x.heap[w.heap.size + 1 + 1]? = some (.cells #[.pointer none, .slice none 0 0, .map none] 93 (0, 0)) ∧ Reads x u (ints fi) ∧ Ext w x
theorem Side79.turn {w A B : World} {Ba : Nat} {r2 u m : Value} {fi : List Nat} (h : Side79 w Ba r2 u m fi A) {row : Option Nat} (hg : A.grownBy B row) (hr : ∀ r, row = some r → w.heap.size ≤ r ∧ ∃ o : Obj, A.heap[r]? = some o ∧ o.isCells = false) : Side79 w Ba r2 u m fi B :=
  ⟨cells_turn h.1 hg hr, cells_turn h.2.1 hg hr, h.2.2.1.keeps (keeps_turn hg hr), h.2.2.2.grown hg h.2.2.2.size (fun k e => (hr k e).1)⟩
theorem Reads.set3 {W : World} {v x y z x' y' z' : Value} {xs : List Int} {b t : Nat} {fr : Nat × Nat} (h : Reads W v xs) (hb : W.heap[b]? = some (.cells #[x, y, z] t fr)) (hx : ∀ k, x ≠ .int .i64 k) (hy : ∀ k, y ≠ .int .i64 k) (hz : ∀ k, z ≠ .int .i64 k) :
    Reads (((W.setCell ⟨b, 0, none⟩ x').setCell ⟨b, 1, none⟩ y').setCell ⟨b, 2, none⟩ z') v xs := by
  have c0 : W.cell? ⟨b, 0, none⟩ = some x := by rw [cell_of_row _ _ _ _ _ _ hb]; rfl
  have c1 : W.cell? ⟨b, 1, none⟩ = some y := by rw [cell_of_row _ _ _ _ _ _ hb]; rfl
  have c2 : W.cell? ⟨b, 2, none⟩ = some z := by rw [cell_of_row _ _ _ _ _ _ hb]; rfl
  have d1 : (W.setCell ⟨b, 0, none⟩ x').cell? ⟨b, 1, none⟩ = some y := (World.cell?_setCell_other _ _ _ _ (by simp)).trans c1
  have d2 : ((W.setCell ⟨b, 0, none⟩ x').setCell ⟨b, 1, none⟩ y').cell? ⟨b, 2, none⟩ = some z := (World.cell?_setCell_other _ _ _ _ (by simp)).trans ((World.cell?_setCell_other _ _ _ _ (by simp)).trans c2)
  exact ((h.setOther c0 hx).setOther d1 hy).setOther d2 hz
theorem contains101_nat (v : Value) (fi : List Nat) (n : Nat) (bb : Bool) (hb : bb = decide (n ∈ fi)) (w : World) (hx : Reads w v (ints fi)) :
    Calls Try.prog 101 #[v, .int .i64 (n : Int)] w fun e w' => e = .returned (.bool bb) ∧ w = w' := (contains101_any v (ints fi) (n : Int) w hx).mono fun e w' ⟨h1, h2⟩ => by
  refine ⟨?_, h2⟩
  rw [h1, hb]
  have : ((n : Int) ∈ ints fi) ↔ n ∈ fi := by
    unfold ints
    rw [List.mem_map]
    exact ⟨fun ⟨m, hm, e⟩ => by rw [← Int.ofNat_inj.1 e]; exact hm, fun h => ⟨n, h, rfl⟩⟩
  simp [this]
set_option maxRecDepth 100000 in
set_option maxHeartbeats 4000000 in
theorem ask79_ok (S L : Nat) (ms : List Nat) (qs : List Nat) (v u : Value) (w : World) (hv : Valid S L ms) (hr : Reads w v (ints ms)) (hu : Reads w u (ints qs)) (hq : Valid S L qs) :
    Calls Try.prog 79 #[.agg #[.int .i64 (S : Int), .int .i64 (L : Int), v], u] w fun e w' => ∃ r2 mb u', e = .returned (.tuple #[.agg #[.pointer (some ⟨r2, 0, none⟩), u', .map (some mb)], .int .i64 0]) ∧ (Reads w' u' (ints (freeIx ms L qs)) ∧ CapOk u') ∧ ClMap w' mb 200 (askF ms L qs) ∧ Ext w w' := by
  obtain ⟨ys, hys⟩ : ∃ ys, ys = ints qs := ⟨_, rfl⟩
  have hlen : ys.length = qs.length := by rw [hys, ints_length]
  have hy : ys.length ≤ 12 := by have := hq.2.2.2.1; omega
  have hin : inR 1 (full S : Int) ys = true := by
    rw [hys]
    refine List.all_eq_true.2 fun n hn => ?_
    obtain ⟨m, hm, rfl⟩ := List.mem_map.1 hn
    have := hq.2.2.2.2 m hm
    simp; omega
  rw [← hys] at hu
  have HYS := Lib.hid hys; have HLEN := Lib.hid hlen; have HQ := Lib.hid hq
  clear hys hlen hq
  obtain ⟨hl, a, cap, rfl⟩ := hr.shape
  obtain ⟨hl', a', cap', rfl⟩ := hu.shape
  have E0 := Lib.hid ((((Ext.refl w).alloc (.cells #[.int .i64 (S : Int), .int .i64 (L : Int), .slice a (ints ms).length cap] 24)).alloc (.cells #[.slice a' ys.length cap'] 22)).alloc (.cells #[.pointer none, .slice none 0 0, .map none] 93))
  have oB := ((heap_alloc_new w (.cells #[.int .i64 (S : Int), .int .i64 (L : Int), .slice a (ints ms).length cap] 24)))
  have OB := Lib.hid (block_ext ((Ext.refl _).alloc (.cells #[.pointer none, .slice none 0 0, .map none] 93)) (block_ext ((Ext.refl _).alloc (.cells #[.slice a' ys.length cap'] 22)) oB))
  clear oB
  have P0 := Lib.hid ((OffAt.new w (.int .i64 S) (.int .i64 L) (.slice a (ints ms).length cap) 24).ext (((Ext.refl _).alloc (.cells #[.slice a' ys.length cap'] 22)).alloc (.cells #[.pointer none, .slice none 0 0, .map none] 93)))
  have HO := Lib.hid (open_ok S L ms _ (.slice none 0 0) [] _ hv (hr.ext E0.out) (Reads.nil _) rfl)
  have b1 := (Boxed.new (w.alloc (.cells #[.int .i64 (S : Int), .int .i64 (L : Int), .slice a (ints ms).length cap] 24)) 22 (.slice a' ys.length cap')).alloc (.cells #[.pointer none, .slice none 0 0, .map none] 93)
  rw [World.size_alloc] at b1
  have B1 := Lib.hid b1
  have HU := Lib.hid hu; have HIN := Lib.hid hin
  have HR := Lib.hid hr; have HV := Lib.hid hv
  have hS1 := hv.1
  have hS2 := hv.2.1
  clear hr hu b1 hin hv
  have hy2 : (ys.length : Int) ≤ 12 := by omega
  go_enter Try.func79, Try.ntmps79
  go_wp2_with fail
  refine HO.out.mono ?_
  rintro e w' ⟨b, bt, rfl, hb1, hb2, hbne, ho, h3, hrow, hb⟩
  have HB := Lib.hid (E0.out.trans hb)
  obtain ⟨g1, g2, g3⟩ := P0.out.ext hb
  have hB2 := block_ext hb (heap_alloc_new (((w.alloc (.cells #[.int .i64 S, .int .i64 L, .slice a (ints ms).length cap] 24)).alloc (.cells #[.slice a' ys.length cap'] 22))) (.cells #[.pointer none, .slice none 0 0, .map none] 93))
  rw [World.size_alloc, World.size_alloc] at hB2
  have g4 := Boxed.cell (block_ext hb B1.out)
  have HB2 := Lib.hid hB2
  have hsz : w.heap.size + 1 + 1 < w'.heap.size := (Array.getElem?_eq_some_iff.1 hB2).1
  have HOB := Lib.hid (block_ext hb OB.out); have HMB := Lib.hid (block_ext hb B1.out)
  have HT := Lib.hid (open_reg (HR.out.ext E0.out) hb ho h3 hrow)
  have hrb : bt < w'.heap.size := HT.out.lt
  have hbt : w.heap.size + 1 + 1 < bt := by have := hb2; simp at this; omega
  clear hB2 hb ho h3 hrow hb1 hb2 hbne
  have hmix : Try.prog.follows .mixedOrders = true := by kernel_rfl
  have g5 := cell_ext ((Ext.refl w').alloc (.cells #[.pointer (some ⟨b, 0, none⟩)] 63)) g4
  go_wp2
  have HRB := Lib.hid (Boxed.new w' 63 (.pointer (some ⟨b, 0, none⟩)))
  have hA := (Ext.refl w').alloc (.cells #[.pointer (some ⟨b, 0, none⟩)] 63)
  replace g1 := cell_ext hA g1
  replace g2 := cell_ext hA g2
  replace g3 := cell_ext hA g3
  replace g4 := cell_ext hA g4
  replace HB := Lib.hid (HB.out.trans hA)
  replace HB2 := Lib.hid (block_ext hA HB2.out)
  replace HOB := Lib.hid (block_ext hA HOB.out); replace HMB := Lib.hid (block_ext hA HMB.out); replace HT := Lib.hid (HT.out.ext hA)
  have hsz2 : w.heap.size + 1 + 1 < (w'.alloc (.cells #[.pointer (some ⟨b, 0, none⟩)] 63)).heap.size := by simp; omega
  clear hA hsz
  generalize (w'.alloc (.cells #[.pointer (some ⟨b, 0, none⟩)] 63)) = W2 at *
  go_region_held3 (fun X => X.cell? ⟨w.heap.size, 0, none⟩ = some (.int .i64 S) ∧ X.cell? ⟨w.heap.size, 1, none⟩ = some (.int .i64 L) ∧ X.cell? ⟨w.heap.size, 2, none⟩ = some (.slice a (ints ms).length cap) ∧ X.cell? ⟨w.heap.size + 1, 0, none⟩ = some (.slice a' ys.length cap') ∧ Hid (Ext W2 X))
    (first | assumption | exact ⟨g1, g2, g3, g4, Ext.drew (Ext.refl _)⟩ | exact ⟨cell_ext (Ext.ofDrew hb) g1, cell_ext (Ext.ofDrew hb) g2, cell_ext (Ext.ofDrew hb) g3, cell_ext (Ext.ofDrew hb) g4, Ext.ofDrew hb⟩)
    (first | (go_at_call 58; refine (allStrokes_any _ _ _ _ hS1 hS2).mono ?_; rintro e w2 ⟨rfl, hb⟩)
            | (go_at_call 57; refine (within_any _ _ _ ys _ (HU.out.ext (HB.out.trans (Ext.ofDrew hb)))).mono ?_; rintro e w3 ⟨rfl, rfl⟩))
  all_goals
    rename_i hk
    obtain ⟨-, -, -, -, k5⟩ := hk
    rw [HIN.out]
    replace HB2 := Lib.hid (block_ext k5.out HB2.out); replace HOB := Lib.hid (block_ext k5.out HOB.out); replace HMB := Lib.hid (block_ext k5.out HMB.out); replace HT := Lib.hid (HT.out.ext k5.out); replace HRB := Lib.hid (block_ext k5.out HRB.out)
    replace HB := Lib.hid (HB.out.trans k5.out)
    have c1 := Boxed.cell HRB.out
    clear k5 hb
    go_wp2_with fail
    refine (note75 b S L bt ms _ _ 76 #[] (fun _ => true) _ HV.out HT.out ent76 (fun i W _ _ => any76_calls i W)).mono ?_
    rintro e w3 ⟨rfl, hT3, hG3⟩
    replace HB2 := Lib.hid (block_turn hG3 HB2.out (by omega)); replace HOB := Lib.hid (block_turn hG3 HOB.out (by omega)); replace HMB := Lib.hid (block_turn hG3 HMB.out (by omega)); replace HRB := Lib.hid (block_turn hG3 HRB.out (by omega))
    have HT3 := Lib.hid hT3
    have HE3 := Lib.hid (grown_new HB.out hG3 (by omega))
    have hU3 : Reads w3 (.slice a' ys.length cap') ys := (HU.out.ext HB.out).keeps (KeepsCells.turned HT.out.2.2 hG3)
    have HU3 := Lib.hid hU3
    have c1 := Boxed.cell HRB.out
    have c2 := Boxed.cell HMB.out
    clear hT3 hG3 hU3
    go_wp2_with fail
    have hql := HLEN.out
    have hpick : Calls Try.prog 59 #[.int .i64 0, .int .i64 ((ys.length : Int) - 1), .func (.func 100) #[] #[.pointer (some ⟨w'.heap.size, 0, none⟩), .pointer (some ⟨w.heap.size + 1, 0, none⟩)]] w3 fun e w' => ∃ v, e = .returned v ∧ (Reads w' v (ints (freeIx ms L qs)) ∧ CapOk v) ∧ Ext w3 w' :=
      pick59c 100 #[] #[.pointer (some ⟨w'.heap.size, 0, none⟩), .pointer (some ⟨w.heap.size + 1, 0, none⟩)] 0 qs.length ((ys.length : Int) - 1) (fun i => untakenB (mAt qs i) L (freeT ms L)) _ (by omega) (by omega) (by omega) ent100 (fun i W hi hW => by
      have h := ask1_100 b S L bt i w'.heap.size (w.heap.size + 1) ms qs _ (.slice a' ys.length cap') (freeT ms L) W HV.out HQ.out (HT3.out.ext hW) hi (cell_ext hW c1) (cell_ext hW c2) (by rw [← HYS.out]; exact HU3.out.ext hW)
      simpa using h)
    refine hpick.mono ?_
    clear hql hpick
    rintro e w4 ⟨u5, rfl, ⟨hru, hcap5⟩, hb4⟩
    obtain ⟨hl5, a5, cap5, rfl⟩ := hru.shape
    have hcap5' := hcap5.le
    obtain ⟨fi, hfi⟩ : ∃ fi, fi = freeIx ms L qs := ⟨_, rfl⟩
    rw [← hfi] at hru hl5 hcap5' ⊢
    obtain ⟨n5, hn5⟩ : ∃ n5, n5 = (ints fi).length := ⟨_, rfl⟩
    rw [← hn5] at hru hl5 hcap5' ⊢
    clear hcap5
    have HFI := Lib.hid hfi; have HN5 := Lib.hid hn5
    clear hfi hn5
    have HRU := Lib.hid hru
    replace HB2 := Lib.hid (block_ext hb4 HB2.out); replace HOB := Lib.hid (block_ext hb4 HOB.out); replace HMB := Lib.hid (block_ext hb4 HMB.out)
    have HU4 := Lib.hid (HU3.out.ext hb4)
    have HE4 := Lib.hid (HE3.out.trans hb4)
    have c2 := Boxed.cell HMB.out
    have o0 : w4.cell? ⟨w.heap.size, 0, none⟩ = some (.int .i64 (S : Int)) := by rw [cell_of_row _ _ _ _ _ _ HOB.out]; rfl
    have o1 : w4.cell? ⟨w.heap.size, 1, none⟩ = some (.int .i64 (L : Int)) := by rw [cell_of_row _ _ _ _ _ _ HOB.out]; rfl
    have o2 : w4.cell? ⟨w.heap.size, 2, none⟩ = some (.slice a (ints ms).length cap) := by rw [cell_of_row _ _ _ _ _ _ HOB.out]; rfl
    have of2 := frozen_of_row _ _ 2 _ _ HOB.out
    have hsz4 : w.heap.size + 1 + 1 < w4.heap.size := (Array.getElem?_eq_some_iff.1 HB2.out).1
    clear hb4 hru c1 HRB
    go_wp2_with fail
    have hE5 : Ext w (w4.setCell ⟨w.heap.size, 2, none⟩ (.slice a' ys.length cap')) := ext_set HE4.out (Nat.le_refl _) _
    have hR5 : Reads (w4.setCell ⟨w.heap.size, 2, none⟩ (.slice a' ys.length cap')) (.slice a5 n5 cap5) (ints fi) := HRU.out.setOther o2 (fun k e => by cases e)
    have hB5 : (w4.setCell ⟨w.heap.size, 2, none⟩ (.slice a' ys.length cap')).heap[w.heap.size + 1 + 1]? = some (.cells #[.pointer none, .slice none 0 0, .map none] 93 (0, 0)) := by rw [set_other (by omega)]; exact HB2.out
    have hs5 : (w4.setCell ⟨w.heap.size, 2, none⟩ (.slice a' ys.length cap')).heap.size = w4.heap.size := by simp
    change Calls Try.prog 62 _ (((w4.setCell ⟨w.heap.size, 2, none⟩ (.slice a' ys.length cap')).alloc (.cells #[.int .i64 (S : Int), .int .i64 (L : Int), .slice a' ys.length cap', .slice none 0 0] 70)).alloc (.cells #[.pointer (some ⟨w4.heap.size, 0, none⟩), .slice a5 n5 cap5, .map none] 93)) _
    have hRB6 : RegAt (((w4.setCell ⟨w.heap.size, 2, none⟩ (.slice a' ys.length cap')).alloc (.cells #[.int .i64 (S : Int), .int .i64 (L : Int), .slice a' ys.length cap', .slice none 0 0] 70)).alloc (.cells #[.pointer (some ⟨w4.heap.size, 0, none⟩), .slice a5 n5 cap5, .map none] 93)) w4.heap.size S L (.slice a' ys.length cap') qs := by
      refine RegAt.ext (w := (w4.setCell ⟨w.heap.size, 2, none⟩ (.slice a' ys.length cap')).alloc (.cells #[.int .i64 (S : Int), .int .i64 (L : Int), .slice a' ys.length cap', .slice none 0 0] 70)) ⟨⟨?_, ?_, ?_⟩, ?_⟩ ((Ext.refl _).alloc _)
      · exact World.cell?_alloc_at _ _ _ _ hs5.symm
      · exact World.cell?_alloc_at _ _ _ _ hs5.symm
      · exact World.cell?_alloc_at _ _ _ _ hs5.symm
      · rw [← HYS.out]; exact HU.out.ext (hE5.alloc _)
    have hA6 := heap_alloc_new ((w4.setCell ⟨w.heap.size, 2, none⟩ (.slice a' ys.length cap')).alloc (.cells #[.int .i64 (S : Int), .int .i64 (L : Int), .slice a' ys.length cap', .slice none 0 0] 70)) (.cells #[.pointer (some ⟨w4.heap.size, 0, none⟩), .slice a5 n5 cap5, .map none] 93)
    rw [World.size_alloc, hs5] at hA6
    have hE6 : Ext (w4.setCell ⟨w.heap.size, 2, none⟩ (.slice a' ys.length cap')) (((w4.setCell ⟨w.heap.size, 2, none⟩ (.slice a' ys.length cap')).alloc (.cells #[.int .i64 (S : Int), .int .i64 (L : Int), .slice a' ys.length cap', .slice none 0 0] 70)).alloc (.cells #[.pointer (some ⟨w4.heap.size, 0, none⟩), .slice a5 n5 cap5, .map none] 93)) := ((Ext.refl _).alloc _).alloc _
    have hS6 : Side79 w (w4.heap.size + 1) (.pointer (some ⟨w4.heap.size, 0, none⟩)) (.slice a5 n5 cap5) (.map none) fi (((w4.setCell ⟨w.heap.size, 2, none⟩ (.slice a' ys.length cap')).alloc (.cells #[.int .i64 (S : Int), .int .i64 (L : Int), .slice a' ys.length cap', .slice none 0 0] 70)).alloc (.cells #[.pointer (some ⟨w4.heap.size, 0, none⟩), .slice a5 n5 cap5, .map none] 93)) :=
      ⟨hA6, block_ext hE6 hB5, hR5.ext hE6, Ext.trans hE5 hE6⟩
    have HS6 := Lib.hid hS6
    refine (clashing62 w4.heap.size S L qs _ _ HQ.out hRB6).mono ?_
    have hwB : w.heap.size < w4.heap.size + 1 := by omega
    clear hRB6 hA6 hE6 hS6 hE5 hR5 hB5 hs5 c2 o0 o1 o2 of2
    rintro e w6 ⟨mb, rfl, hmb, hCM, hb6⟩
    have hS6 : Side79 w (w4.heap.size + 1) (.pointer (some ⟨w4.heap.size, 0, none⟩)) (.slice a5 n5 cap5) (.map none) fi w6 := HS6.out.turn (grown_ext hb6 none) (fun r e => by cases e)
    have hmbB : w4.heap.size + 1 < mb := by simp at hmb; omega
    have HCM := Lib.hid hCM
    clear hCM hb6 hmb
    have cA2 : w6.cell? ⟨w4.heap.size + 1, 2, none⟩ = some (.map none) := by rw [cell_of_row _ _ _ _ _ _ hS6.1]; rfl
    have fA2 := frozen_of_row _ _ 2 _ _ hS6.1
    have HS7 := Lib.hid hS6
    clear hS6 HRU HS6
    obtain ⟨D, hown, hmi⟩ := HCM.out
    have hS8 : Side79 w (w4.heap.size + 1) (.pointer (some ⟨w4.heap.size, 0, none⟩)) (.slice a5 n5 cap5) (.map (some mb)) fi (w6.setCell ⟨w4.heap.size + 1, 2, none⟩ (.map (some mb))) := by
      refine ⟨?_, ?_, HS7.out.2.2.1.setOther cA2 (fun k e => by cases e), ext_set HS7.out.2.2.2 (by omega) _⟩
      · show (w6.heap.modify (w4.heap.size + 1) _)[w4.heap.size + 1]? = _
        rw [Array.getElem?_modify, HS7.out.1]; simp
      · rw [set_other (by omega)]; exact HS7.out.2.1
    have hown8 : (w6.setCell ⟨w4.heap.size + 1, 2, none⟩ (.map (some mb))).ownsMap Try.prog 76 (plainElem (H := Unit) Try.prog 3) mb 200 D := by
      obtain ⟨es, ck, hh, r⟩ := hown
      exact ⟨es, ck, by rw [set_other (by omega)]; exact hh, r⟩
    have HS8 := Lib.hid hS8; have HMI := Lib.hid (keepF_start hmi fi)
    clear hS8 hown hmi
    have hit : (w6.setCell ⟨w4.heap.size + 1, 2, none⟩ (.map (some mb))).heap.size = w6.heap.size := by simp
    have HIT := Lib.hid hit; clear hit
    go_wp2_with (at_range; refine wpList_range_own _ rfl _ 73 rfl 76 3 keyed76 Try.underlying73 _ mb 200 _ rfl hown8 ?_; rw [HIT.out]; intro w0 hrg0 hg0 hs0)
    have hS0 := HS8.out.turn hg0 (fun r e => by cases e)
    have hitB : w.heap.size ≤ w6.heap.size := by have := HS7.out.2.2.2.size; exact this
    have hmbW : w.heap.size ≤ mb := by omega
    clear hg0 hs0 HIT hown8 cA2 fA2
    go_frame
    go_loopw [10] (fun _ wr => ∃ (left : Lit → Bool) (cnt : Nat) (D' : DataW Unit), wr.ranges Try.prog 76 (plainElem (H := Unit) Try.prog 3) mb w6.heap.size 200 D' left cnt ∧ MapIs D' (keepF fi (clF qs L (pairsL qs.length)) left) ∧ Side79 w (w4.heap.size + 1) (.pointer (some ⟨w4.heap.size, 0, none⟩)) (.slice a5 n5 cap5) (.map (some mb)) fi wr)
      (fun _ wr => wr.rangeLeft mb w6.heap.size)
    case atStart => exact ⟨_, _, _, hrg0, HMI.out, hS0⟩
    case round =>
      obtain ⟨left, cnt, D', hrg, hM, hS⟩ := hrel
      have HM := Lib.hid hM; have HS := Lib.hid hS
      clear hM hS hS0 hrg0
      go_wp2_with (at_next; refine wpList_next_ranges _ rfl _ rfl 76 keyed76 (plainElem (H := Unit) Try.prog 3) (fun v : Value => v) (fun v : Value => v) (fun key kl hk => ⟨key, rfl⟩) (fun v _ _ => ⟨v, rfl⟩) mb w6.heap.size 200 _ _ _ rfl hrg ?_ ?_)
      · intro hc0 hl0
        have cA0 : wr.cell? ⟨w4.heap.size + 1, 0, none⟩ = some (.pointer (some ⟨w4.heap.size, 0, none⟩)) := by rw [cell_of_row _ _ _ _ _ _ HS.out.1]; rfl
        have cA1 : wr.cell? ⟨w4.heap.size + 1, 1, none⟩ = some (.slice a5 n5 cap5) := by rw [cell_of_row _ _ _ _ _ _ HS.out.1]; rfl
        have cA2 : wr.cell? ⟨w4.heap.size + 1, 2, none⟩ = some (.map (some mb)) := by rw [cell_of_row _ _ _ _ _ _ HS.out.1]; rfl
        have f0 := frozen_of_row _ _ 0 _ _ HS.out.2.1
        have f1 := frozen_of_row _ _ 1 _ _ HS.out.2.1
        have f2 := frozen_of_row _ _ 2 _ _ HS.out.2.1
        have c0 : wr.cell? ⟨w.heap.size + 1 + 1, 0, none⟩ = some (.pointer none) := by rw [cell_of_row _ _ _ _ _ _ HS.out.2.1]; rfl
        have c1 : wr.cell? ⟨w.heap.size + 1 + 1, 1, none⟩ = some (.slice none 0 0) := by rw [cell_of_row _ _ _ _ _ _ HS.out.2.1]; rfl
        have c2 : wr.cell? ⟨w.heap.size + 1 + 1, 2, none⟩ = some (.map none) := by rw [cell_of_row _ _ _ _ _ _ HS.out.2.1]; rfl
        have HE := Lib.hid (keepF_end HM.out hl0); have HG := Lib.hid hrg.owns
        clear hrg hl0 hc0
        go_wp2
        have hcl : ClMap wr mb 200 (askF ms L qs) := ⟨D', HG.out, by
          have := HE.out
          rw [HFI.out] at this
          exact this⟩
        have HCL := Lib.hid hcl
        refine bodyPost_ret (v := .tuple #[.agg #[.pointer (some ⟨w4.heap.size, 0, none⟩), .slice a5 n5 cap5, .map (some mb)], .int .i64 0]) ?_ rfl ⟨w4.heap.size, mb, .slice a5 n5 cap5, rfl, ?_, ?_, ?_⟩
        · exact results_cell93 Try.results79 _ _ (w.heap.size + 1 + 1) rfl (cells3_set HS.out.2.1 _ _ _)
        · refine ⟨?_, ⟨_, _, _, rfl, hcap5'⟩⟩
          rw [← HFI.out]; exact HS.out.2.2.1.set3 HS.out.2.1 (fun k e => by cases e) (fun k e => by cases e) (fun k e => by cases e)
        · refine HCL.out.block ?_
          rw [set_other (by omega), set_other (by omega), set_other (by omega)]
        · exact ext_set (ext_set (ext_set HS.out.2.2.2 (by omega) _) (by omega) _) (by omega) _
      · intro x c kl yd yp w2 cnt2 hkey hlk hv hat hrg2 hlt hg2 hs2 hen
        have hh := has_true_of_atKey hat
        obtain ⟨p, hp1, hp2, rfl⟩ := HM.out.2.2 kl hh
        obtain rfl : x = kv p := keyed76.inj hkey (kv_key ⟨hp1, hp2⟩)
        have hS2 := HS.out.turn hg2 (fun r e => by
          cases e
          obtain ⟨o, ho, hw⟩ := hrg.iter_walk
          exact ⟨hitB, o, ho, Obj.not_cells_of_walk hw⟩)
        have hle := hrg.left_eq
        obtain ⟨i, k⟩ := p
        have hS3 := hS2.turn (World.grownBy_alloc w2 (.cells #[.int .i64 (i : Int), .int .i64 (k : Int)] 76) none) (fun r e => by cases e)
        have hrg3 := hrg2.alloc (.cells #[.int .i64 (i : Int), .int .i64 (k : Int)] 76)
        have HS3 := Lib.hid hS3; have HRG3 := Lib.hid hrg3
        clear hS2 hS3 hrg hrg2 hat hh hv hkey hg2 hs2
        dsimp only [kv] at hen ⊢
        by_cases h1 : i ∈ fi
        · have H1 := Lib.hid (contains101_nat (.slice a5 n5 cap5) fi i true (by simp [h1]) _ HS3.out.2.2.1)
          by_cases h2 : k ∈ fi
          · have H2 := Lib.hid (contains101_nat (.slice a5 n5 cap5) fi k true (by simp [h2]) _ HS3.out.2.2.1)
            have hM3 := keepF_stay HM.out (p := (i, k)) ⟨hp1, hp2⟩ ⟨h1, h2⟩
            have HM3 := Lib.hid hM3
            clear hM3 h1 h2
            go_wp2_with fail
            refine H1.out.mono ?_
            rintro e w' ⟨rfl, rfl⟩
            go_wp2_with fail
            refine H2.out.mono ?_
            rintro e w' ⟨rfl, rfl⟩
            go_wp2
            go_roundw
            case rel => exact ⟨_, _, _, HRG3.out, HM3.out, HS3.out⟩
            case measure => rw [HRG3.out.left_eq, hle]; exact hlt
          · have H2 := Lib.hid (contains101_nat (.slice a5 n5 cap5) fi k false (by simp [h2]) _ HS3.out.2.2.1)
            have HM3 := Lib.hid (keepF_del HM.out (p := (i, k)) ⟨hp1, hp2⟩ (fun h => h2 h.2))
            have hA2 := HS3.out.1
            have cA2 : (w2.alloc (.cells #[.int .i64 (i : Int), .int .i64 (k : Int)] 76)).cell? ⟨w4.heap.size + 1, 2, none⟩ = some (.map (some mb)) := by rw [cell_of_row _ _ _ _ _ _ hA2]; rfl
            clear h1 h2 hA2
            go_wp2_with fail
            refine H1.out.mono ?_
            rintro e w' ⟨rfl, rfl⟩
            go_wp2_with fail
            refine H2.out.mono ?_
            rintro e w' ⟨rfl, rfl⟩
            go_wp2_with (at_delete; refine wpList_delete_ranges _ rfl _ _ 73 76 rfl 3 keyed76 Try.underlying73 _ mb w6.heap.size 200 _ _ _ rfl HRG3.out (kv (i, k)) (kp (i, k)) rfl (kv_key ⟨hp1, hp2⟩) ?_; intro w5 cnt5 hrg5 hc5 ht5)
            have hS5 := HS3.out.turn ht5.grown (fun r e => by
              cases e
              obtain ⟨es, ck, hh, -⟩ := HRG3.out.owns
              exact ⟨hmbW, _, hh, rfl⟩)
            go_frame
            go_roundw
            case rel => exact ⟨_, _, _, hrg5, (by rw [show (fun z : Lit => left z && !z.sameKey (kp (i, k)) && !z.sameKey (kp (i, k))) = (fun z => left z && !z.sameKey (kp (i, k))) from by funext z; rw [Bool.and_assoc, Bool.and_self]]; exact HM3.out), hS5⟩
            case measure => rw [hrg5.left_eq, hle]; omega
        · have H1 := Lib.hid (contains101_nat (.slice a5 n5 cap5) fi i false (by simp [h1]) _ HS3.out.2.2.1)
          have HM3 := Lib.hid (keepF_del HM.out (p := (i, k)) ⟨hp1, hp2⟩ (fun h => h1 h.1))
          have hA2 := HS3.out.1
          have cA2 : (w2.alloc (.cells #[.int .i64 (i : Int), .int .i64 (k : Int)] 76)).cell? ⟨w4.heap.size + 1, 2, none⟩ = some (.map (some mb)) := by rw [cell_of_row _ _ _ _ _ _ hA2]; rfl
          clear h1 hA2
          go_wp2_with fail
          refine H1.out.mono ?_
          rintro e w' ⟨rfl, rfl⟩
          go_wp2_with (at_delete; refine wpList_delete_ranges _ rfl _ _ 73 76 rfl 3 keyed76 Try.underlying73 _ mb w6.heap.size 200 _ _ _ rfl HRG3.out (kv (i, k)) (kp (i, k)) rfl (kv_key ⟨hp1, hp2⟩) ?_; intro w5 cnt5 hrg5 hc5 ht5)
          have hS5 := HS3.out.turn ht5.grown (fun r e => by
            cases e
            obtain ⟨es, ck, hh, -⟩ := HRG3.out.owns
            exact ⟨hmbW, _, hh, rfl⟩)
          go_frame
          go_roundw
          case rel => exact ⟨_, _, _, hrg5, (by rw [show (fun z : Lit => left z && !z.sameKey (kp (i, k)) && !z.sameKey (kp (i, k))) = (fun z => left z && !z.sameKey (kp (i, k))) from by funext z; rw [Bool.and_assoc, Bool.and_self]]; exact HM3.out), hS5⟩
          case measure => rw [hrg5.left_eq, hle]; omega
end Go.Proofs.Ytlgdnbpboonhdaa
