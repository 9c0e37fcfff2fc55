/- Contracts of shared and lost. Contract of lost. -/
import Derived.Test.YtlgdnbpboonhdaaM9
import Derived.Deep.MidRow
import Derived.Laws.Rows
import Derived.Deep.RegionHeld3
namespace Go.Proofs.Ytlgdnbpboonhdaa
open Go.RowKit
set_option linter.unusedVariables false
/-- What the walk is told of a register: its office's cells, and its marks. -/
def RegAt (X : World) (b : Nat) (S L : Nat) (v : Value) (ms : List Nat) : Prop := OffAt X b (.int .i64 (S : Int)) (.int .i64 (L : Int)) v ∧ Reads X v (ints ms)
theorem RegAt.ext {w w' : World} {b S L : Nat} {v : Value} {ms : List Nat} (h : RegAt w b S L v ms) (hb : Ext w w') : RegAt w' b S L v ms := ⟨h.1.ext hb, h.2.ext hb⟩
theorem Reads.atN {w : World} {a : Option Addr} {n cap : Nat} {ms : List Nat} (h : Reads w (.slice a n cap) (ints ms)) {k m : Nat} (hk : ms[k]? = some m) :
    ∃ b off, a = some ⟨b, off, none⟩ ∧ n = ms.length ∧ w.cell? ⟨b, off + k, none⟩ = some (.int .i64 (m : Int)) := by
  have hi : k < ms.length := (List.getElem?_eq_some_iff.1 hk).1
  obtain ⟨b, off, x, rfl, hx, hc⟩ := h.at (k := k) (by rw [ints_length]; exact hi)
  obtain ⟨m', hm', rfl⟩ := ints_get hx
  rw [hk] at hm'; cases hm'
  obtain ⟨_, _, _, e, _⟩ := h
  cases e
  exact ⟨b, off, rfl, ints_length ms, hc⟩
theorem shared93 (b S L i k m n : Nat) (ms : List Nat) (v : Value) (w : World) (hr : RegAt w b S L v ms) (hi : ms[i]? = some m) (hk : ms[k]? = some n) (hm : m < 1024) (hn : n < 1024) :
    Calls Try.prog 93 #[.pointer (some ⟨b, 0, none⟩), .agg #[.int .i64 (i : Int), .int .i64 (k : Int)]] w fun e w' => e = .returned (.int .i64 ((m &&& n : Nat) : Int)) ∧ Ext w w' := by
  obtain ⟨⟨h1, h2, h3⟩, hv⟩ := hr
  obtain ⟨hl, a, cap, rfl⟩ := hv.shape
  have hi' : i < ms.length := (List.getElem?_eq_some_iff.1 hi).1
  have hk' : k < ms.length := (List.getElem?_eq_some_iff.1 hk).1
  obtain ⟨b1, off, rfl, hlen, hc1⟩ := hv.atN hi
  obtain ⟨b1', off', e, _, hc2⟩ := hv.atN hk
  cases e
  rw [hlen] at hl h3
  have hA := and_nat m n (by omega) (by omega)
  have E0 := (Ext.refl w).alloc (.cells #[.int .i64 (i : Int), .int .i64 (k : Int)] 76)
  replace h1 := cell_ext E0 h1
  replace h3 := cell_ext E0 h3
  replace hc1 := cell_ext E0 hc1
  replace hc2 := cell_ext E0 hc2
  have g1 : (w.alloc (.cells #[.int .i64 (i : Int), .int .i64 (k : Int)] 76)).cell? ⟨w.heap.size, 0, none⟩ = some (.int .i64 (i : Int)) := World.cell?_alloc_at _ _ _ _ rfl
  have g2 : (w.alloc (.cells #[.int .i64 (i : Int), .int .i64 (k : Int)] 76)).cell? ⟨w.heap.size, 1, none⟩ = some (.int .i64 (k : Int)) := World.cell?_alloc_at _ _ _ _ rfl
  have E0' := Lib.hid E0
  clear hi hk hv h1 h2 hlen E0
  go_enter Try.func93, Try.ntmps93
  go_wp2
  generalize (w.alloc (.cells #[.int .i64 (i : Int), .int .i64 (k : Int)] 76)) = W at *
  have hka : (0 : Int) ≤ (i : Int) := by omega
  have hkb : (i : Int) < (ms.length : Int) := by omega
  have hkc : (0 : Int) ≤ (k : Int) := by omega
  have hkd : (k : Int) < (ms.length : Int) := by omega
  go_quiet (fail)
  go_wp2
  go_ret
  refine ⟨ret_int ?_, E0'.out.drewN _⟩
  first | exact hA | rfl | simpa using hA
end Go.Proofs.Ytlgdnbpboonhdaa
namespace Go.Proofs.Ytlgdnbpboonhdaa
open Go.RowKit
set_option linter.unusedVariables false
def z12 : Array Value := #[.int .i64 0, .int .i64 0, .int .i64 0, .int .i64 0, .int .i64 0, .int .i64 0, .int .i64 0, .int .i64 0, .int .i64 0, .int .i64 0, .int .i64 0, .int .i64 0]
theorem z12_get : ∀ i, i < 12 → z12[i]? = some (.int .i64 0) := by
  intro i hi
  match i, hi with
  | 0, _ => rfl | 1, _ => rfl | 2, _ => rfl | 3, _ => rfl | 4, _ => rfl | 5, _ => rfl
  | 6, _ => rfl | 7, _ => rfl | 8, _ => rfl | 9, _ => rfl | 10, _ => rfl | 11, _ => rfl
theorem block_ext {w w' : World} (hb : Ext w w') {g : Nat} {o : Obj} (h : w.heap[g]? = some o) : w'.heap[g]? = some o := by
  rw [hb.block g (Array.getElem?_eq_some_iff.1 h).1]; exact h
theorem far_set {w : World} {g o g' o' : Nat} {v u : Value} (h : w.cell? ⟨g, o, none⟩ = some v) (hne : g' ≠ g) : (w.setCell ⟨g', o', none⟩ u).cell? ⟨g, o, none⟩ = some v := by
  exact (World.cell?_setCell_far w ⟨g', o', none⟩ ⟨g, o, none⟩ u hne).trans h
theorem results_cell_mid {P : Program} {fn : Func} {p : Tmp} {ty : TypeId} (h : fn.results = #[.cell p ty]) (tmps : Array Value) (w : World) (b o : Nat) (cs : List Value) (d : TypeDesc)
    (hp : tmps.getD p undef = .pointer (some ⟨b, o, none⟩)) (hc : w.rangeAt b o cs) (hu : P.underlying ty = some d) (hd : d.isRow = true) (hi : (P.info? ty).map (·.size) = some cs.length) :
    (results fn tmps).run P w = .ok (.agg cs.toArray) w := by
  have hp' : tmps[p]?.getD undef = .pointer (some ⟨b, o, none⟩) := by simpa using hp
  simp [results, h, hp', asAddr, run_loadVar_mid w b o ty cs d hc hu hd hi]
theorem Try.info102 : (Try.prog.info? 102).map (·.size) = some 12 := by kernel_rfl
theorem below_setCells {B b : Nat} {a : World} (hb : B ≤ b) : ∀ (l : List Value) (o : Nat) {w : World}, Below B a w → Below B a (w.setCells b o l)
  | [], _, _, h => h
  | v :: l, o, _, h => below_setCells hb l (o + 1) (h.setCell (p := ⟨b, o, none⟩) hb v)
set_option maxRecDepth 100000 in
theorem lost91 (b S L i k m n : Nat) (ms : List Nat) (v : Value) (w : World) (hr : RegAt w b S L v ms) (hi : ms[i]? = some m) (hk : ms[k]? = some n) (hm : m < 1024) (hn : n < 1024) (hms : ms.length ≤ 12) :
    Calls Try.prog 91 #[.pointer (some ⟨b, 0, none⟩), .agg #[.int .i64 (i : Int), .int .i64 (k : Int)]] w fun e w' => e = .returned (.agg ((z12.setIfInBounds i (.int .i64 (pc (dif m (m &&& n)) : Int))).setIfInBounds k (.int .i64 (pc (dif n (m &&& n)) : Int)))) ∧ Ext w w' := by
  have HR := Lib.hid hr
  obtain ⟨⟨h1, h2, h3⟩, hv⟩ := hr
  obtain ⟨hl, a, cap, rfl⟩ := hv.shape
  have hi' : i < ms.length := (List.getElem?_eq_some_iff.1 hi).1
  have hk' : k < ms.length := (List.getElem?_eq_some_iff.1 hk).1
  obtain ⟨b1, off, rfl, hlen, hc1⟩ := hv.atN hi
  obtain ⟨b1', off', e, _, hc2⟩ := hv.atN hk
  have hbl := lt_of_cell h3
  have hb1l := lt_of_cell hc1
  cases e
  rw [hlen] at hl h3
  have hmn : m &&& n < 1024 := Nat.lt_of_le_of_lt Nat.and_le_left hm
  have hA := andNot_nat m (m &&& n) hm hmn
  have hA2 := andNot_nat n (m &&& n) hn hmn
  obtain ⟨sh, hsh⟩ : ∃ sh, sh = m &&& n := ⟨_, rfl⟩
  have H93 : ∀ X, Ext w X → Calls Try.prog 93 #[.pointer (some ⟨b, 0, none⟩), .agg #[.int .i64 (i : Int), .int .i64 (k : Int)]] X fun e w' => e = .returned (.int .i64 (sh : Int)) ∧ Ext X w' := fun X hX => by
    rw [hsh]; exact shared93 b S L i k m n ms _ X (HR.out.ext hX) hi hk hm hn
  rw [← hsh] at hA hA2 hmn ⊢
  have E0 := (((Ext.refl w).alloc (.cells #[.int .i64 (i : Int), .int .i64 (k : Int)] 76)).alloc (.cells z12 102)).alloc (.cells z12 102)
  replace h3 := cell_ext E0 h3
  replace hc1 := cell_ext E0 hc1
  replace hc2 := cell_ext E0 hc2
  have g1 : (((w.alloc (.cells #[.int .i64 (i : Int), .int .i64 (k : Int)] 76)).alloc (.cells z12 102)).alloc (.cells z12 102)).cell? ⟨w.heap.size, 0, none⟩ = some (.int .i64 (i : Int)) := by go_simp
  have g2 : (((w.alloc (.cells #[.int .i64 (i : Int), .int .i64 (k : Int)] 76)).alloc (.cells z12 102)).alloc (.cells z12 102)).cell? ⟨w.heap.size, 1, none⟩ = some (.int .i64 (k : Int)) := by go_simp
  have hz : (((w.alloc (.cells #[.int .i64 (i : Int), .int .i64 (k : Int)] 76)).alloc (.cells z12 102)).alloc (.cells z12 102)).heap[w.heap.size + 1 + 1]? = some (.cells z12 102 (0, 0)) := by
    have := heap_alloc_new ((w.alloc (.cells #[.int .i64 (i : Int), .int .i64 (k : Int)] 76)).alloc (.cells z12 102)) (.cells z12 102)
    simpa using this
  have hz1 : (((w.alloc (.cells #[.int .i64 (i : Int), .int .i64 (k : Int)] 76)).alloc (.cells z12 102)).alloc (.cells z12 102)).heap[w.heap.size + 1]? = some (.cells z12 102 (0, 0)) := by
    refine block_ext ((Ext.refl _).alloc _) ?_
    have := heap_alloc_new (w.alloc (.cells #[.int .i64 (i : Int), .int .i64 (k : Int)] 76)) (.cells z12 102)
    simpa using this
  have E0' := Lib.hid E0
  have HZ := Lib.hid hz
  have HZ1 := Lib.hid hz1
  have H := Lib.hid H93
  clear hi hk hv h1 h2 hlen E0 hz hz1 H93 hsh
  go_enter Try.func91, Try.ntmps91
  go_wp2
  change Code.wp Try.prog _ _ _ (((w.alloc (.cells #[.int .i64 (i : Int), .int .i64 (k : Int)] 76)).alloc (.cells z12 102)).alloc (.cells z12 102))
  generalize (((w.alloc (.cells #[.int .i64 (i : Int), .int .i64 (k : Int)] 76)).alloc (.cells z12 102)).alloc (.cells z12 102)) = W at *
  have hka : (0 : Int) ≤ (i : Int) := by omega
  have hkb : (i : Int) < (ms.length : Int) := by omega
  have hkc : (0 : Int) ≤ (k : Int) := by omega
  have hkd : (k : Int) < (ms.length : Int) := by omega
  have hke : (i : Int) < 12 := by omega
  have hkf : (k : Int) < 12 := by omega
  have hdm := dif_lt m sh hm
  have hdn := dif_lt n sh hn
  have hp : ∀ X : World, X.heap[w.heap.size + 1 + 1]? = some (.cells z12 102 (0, 0)) → X.cell? ⟨w.heap.size + 1 + 1, i, none⟩ = some (.int .i64 0) ∧ X.frozen? ⟨w.heap.size + 1 + 1, i, none⟩ = false := fun X hX => by
    refine ⟨?_, frozen_of_row _ _ _ _ _ hX⟩
    rw [cell_of_row X _ _ _ _ _ hX]
    exact z12_get i (by omega)
  have HP := Lib.hid hp; clear hp
  go_region_held3 (fun X => X.cell? ⟨w.heap.size, 0, none⟩ = some (.int .i64 i) ∧ X.cell? ⟨w.heap.size, 1, none⟩ = some (.int .i64 k) ∧ X.cell? ⟨b, 2, none⟩ = some (.slice (some ⟨b1, off, none⟩) ms.length cap) ∧ X.cell? ⟨b1, off + i, none⟩ = some (.int .i64 m) ∧ X.cell? ⟨b1, off + k, none⟩ = some (.int .i64 n))
    (first | assumption | exact ⟨g1, g2, h3, hc1, hc2⟩
           | (have hk := Ext.ofDrew hb; exact ⟨cell_ext hk g1, cell_ext hk g2, cell_ext hk h3, cell_ext hk hc1, cell_ext hk hc2⟩)
           | (have hk := Ext.ofDrew hb; exact ⟨far_set (cell_ext hk g1) (by omega), far_set (cell_ext hk g2) (by omega), far_set (cell_ext hk h3) (by omega), far_set (cell_ext hk hc1) (by omega), far_set (cell_ext hk hc2) (by omega)⟩))
    (first | (go_at_call 93; refine (H.out _ (Ext.drew E0'.out)).mono ?_; rintro e w2 ⟨rfl, hb⟩; obtain ⟨q1, q2⟩ := HP.out _ (block_ext (Ext.ofDrew hb) HZ.out))
           | (go_at_call 89; refine (count_any _ hdm _).mono ?_; rintro e w3 ⟨rfl, rfl⟩))
  have HB := Lib.hid (E0'.out.trans (Ext.ofDrew hb))
  have HZ3 := Lib.hid (heap_setCell_same w2 (w.heap.size + 1 + 1) i z12 102 (.int .i64 (pc (dif m sh) : Int)) (block_ext (Ext.ofDrew hb) HZ.out))
  have HZ4 := Lib.hid ((heap_setCell_other w2 ⟨w.heap.size + 1 + 1, i, none⟩ (w.heap.size + 1) (.int .i64 (pc (dif m sh) : Int)) (by simp)).trans (block_ext (Ext.ofDrew hb) HZ1.out))
  have HE3 := Lib.hid (Below.setCell HB.out (p := ⟨w.heap.size + 1 + 1, i, none⟩) (by simp; omega) (.int .i64 (pc (dif m sh) : Int)))
  rename_i hk
  obtain ⟨k1, k2, k3, k4, k5⟩ := hk
  clear g1 g2 h3 hc1 hc2 q1 q2 hb HB HZ HZ1 HP E0' hA
  generalize (w2.setCell ⟨w.heap.size + 1 + 1, i, none⟩ (.int .i64 (pc (dif m sh) : Int))) = W3 at *
  go_wp2
  have hp : ∀ X : World, X.heap[w.heap.size + 1 + 1]? = some (.cells (z12.setIfInBounds i (.int .i64 (pc (dif m sh) : Int))) 102 (0, 0)) → (∃ u, X.cell? ⟨w.heap.size + 1 + 1, k, none⟩ = some u) ∧ X.frozen? ⟨w.heap.size + 1 + 1, k, none⟩ = false := fun X hX => by
    refine ⟨?_, frozen_of_row _ _ _ _ _ hX⟩
    rw [cell_of_row X _ _ _ _ _ hX]
    have : k < (z12.setIfInBounds i (.int .i64 (pc (dif m sh) : Int))).size := by simp; show k < 12; omega
    exact ⟨_, Array.getElem?_eq_getElem this⟩
  have HP := Lib.hid hp; clear hp
  go_region_held3 (fun X => X.cell? ⟨w.heap.size, 0, none⟩ = some (.int .i64 i) ∧ X.cell? ⟨w.heap.size, 1, none⟩ = some (.int .i64 k) ∧ X.cell? ⟨b, 2, none⟩ = some (.slice (some ⟨b1, off, none⟩) ms.length cap) ∧ X.cell? ⟨b1, off + i, none⟩ = some (.int .i64 m) ∧ X.cell? ⟨b1, off + k, none⟩ = some (.int .i64 n))
    (first | assumption | exact ⟨k1, k2, k3, k4, k5⟩
           | (have hk := Ext.ofDrew hb; exact ⟨cell_ext hk k1, cell_ext hk k2, cell_ext hk k3, cell_ext hk k4, cell_ext hk k5⟩)
           | (have hk := Ext.ofDrew hb; exact ⟨far_set (cell_ext hk k1) (by omega), far_set (cell_ext hk k2) (by omega), far_set (cell_ext hk k3) (by omega), far_set (cell_ext hk k4) (by omega), far_set (cell_ext hk k5) (by omega)⟩))
    (first | (go_at_call 93; refine (H.out _ (Ext.drew HE3.out)).mono ?_; rintro e w4 ⟨rfl, hb⟩; obtain ⟨⟨u, q1⟩, q2⟩ := HP.out _ (block_ext (Ext.ofDrew hb) HZ3.out))
           | (go_at_call 89; refine (count_any _ hdn _).mono ?_; rintro e w5 ⟨rfl, rfl⟩))
  have HB := Lib.hid (Ext.trans HE3.out (Ext.ofDrew hb))
  have HZ5 := Lib.hid (heap_setCell_same w4 (w.heap.size + 1 + 1) k _ 102 (.int .i64 (pc (dif n sh) : Int)) (block_ext (Ext.ofDrew hb) HZ3.out))
  have HZ6 := Lib.hid ((heap_setCell_other w4 ⟨w.heap.size + 1 + 1, k, none⟩ (w.heap.size + 1) (.int .i64 (pc (dif n sh) : Int)) (by simp)).trans (block_ext (Ext.ofDrew hb) HZ4.out))
  have HE5 := Lib.hid (Below.setCell HB.out (p := ⟨w.heap.size + 1 + 1, k, none⟩) (by simp; omega) (.int .i64 (pc (dif n sh) : Int)))
  clear k1 k2 k3 k4 k5 q1 q2 hb HB HZ3 HZ4 HE3 HP hA2 H
  generalize (w4.setCell ⟨w.heap.size + 1 + 1, k, none⟩ (.int .i64 (pc (dif n sh) : Int))) = W5 at *
  have hsz : ((z12.setIfInBounds i (.int .i64 (pc (dif m sh) : Int))).setIfInBounds k (.int .i64 (pc (dif n sh) : Int))).size = 12 := by simp; rfl
  have hone : ((z12.setIfInBounds i (.int .i64 (pc (dif m sh) : Int))).setIfInBounds k (.int .i64 (pc (dif n sh) : Int))).all (·.oneCell') = true := by
    rw [Array.all_eq_true_iff_forall_mem]
    intro v hv
    rw [← Array.mem_toList_iff, Array.toList_setIfInBounds, Array.toList_setIfInBounds] at hv
    rcases List.mem_or_eq_of_mem_set hv with hv | rfl
    · rcases List.mem_or_eq_of_mem_set hv with hv | rfl
      · have : v = .int .i64 0 := by simpa [z12] using hv
        subst this; rfl
      · rfl
    · rfl
  generalize hAA : ((z12.setIfInBounds i (.int .i64 (pc (dif m sh) : Int))).setIfInBounds k (.int .i64 (pc (dif n sh) : Int))) = A at *
  have HAA := Lib.hid hAA; clear hAA
  have hinfo : (Try.prog.info? 102).map (·.size) = some A.size := by rw [hsz]; exact Try.info102
  have hth : W5.there (w.heap.size + 1) 0 A.size := fun j hj => by
    rw [Nat.zero_add]
    refine ⟨?_, frozen_of_row _ _ _ _ _ HZ6.out⟩
    rw [cell_of_row _ _ _ _ _ _ HZ6.out, z12_get j (by omega)]; rfl
  have HTH := Lib.hid hth; have HINF := Lib.hid hinfo; have HONE := Lib.hid hone; have HSZ := Lib.hid hsz
  clear hth hinfo hone hsz
  go_wp2_with (first | (refine wpList_load_row rfl _ _ rfl _ rfl _ _ _ _ HZ5.out Try.underlying102 rfl HINF.out ?_) | (refine wpList_store_mid rfl _ _ _ rfl _ _ A rfl rfl HTH.out HINF.out HONE.out ?_))
  refine bodyPost_ret (v := .agg A) ?_ rfl ⟨by rw [HAA.out], below_setCells (by omega) _ _ HE5.out⟩
  have hrg := World.rangeAt_setCells_same W5 (w.heap.size + 1) 0 A.toList (by simpa using HTH.out)
  have hAl : Value.agg A = .agg A.toList.toArray := by simp
  rw [hAl]
  exact results_cell_mid (P := Try.prog) (fn := Try.f91) Try.results91 _ _ _ _ A.toList _ rfl hrg Try.underlying102 rfl (by simpa using HINF.out)
end Go.Proofs.Ytlgdnbpboonhdaa
