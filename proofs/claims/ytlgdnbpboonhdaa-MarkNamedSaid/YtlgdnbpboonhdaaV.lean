/- Contracts of the two checks of an office: each returns 'chk'. Contracts of the reference's check of an office. Valid offices; lists of numbers in memory; lists that a call gathers. -/
import Derived.Test.YtlgdnbpboonhdaaM3
namespace Go.Proofs.Ytlgdnbpboonhdaa
open Go.RowKit
set_option linter.unusedVariables false
/-- The error of an office, as the document says it. -/
def chk (S L : Int) (xs : List Int) : Int :=
  if 1 ≤ S ∧ S ≤ 10 ∧ 0 ≤ L ∧ L ≤ S then if 12 < xs.length then 6 else if inR 1 (full S.toNat) xs then 0 else 2 else 3
theorem check21 (S L : Int) (v : Value) (xs : List Int) (w : World) (hr : Reads w v xs) :
    Calls Try.prog 21 #[.agg #[.int .i64 S, .int .i64 L, v]] w fun e w' => e = .returned (.int .i64 (chk S L xs)) ∧ Ext w w' := by
  obtain ⟨hl, a, cap, rfl⟩ := hr.shape
  have hl2 : xs.length ≤ 9223372036854775807 := by omega
  have HR := Lib.hid hr; clear hr
  have p0 := OffAt.new w (.int .i64 S) (.int .i64 L) (.slice a xs.length cap) 24
  have e0 := (Ext.refl w).alloc (.cells #[.int .i64 S, .int .i64 L, .slice a xs.length cap] 24)
  have P0 := Lib.hid p0; have E0 := Lib.hid e0; clear p0 e0
  by_cases hS : 1 ≤ S ∧ S ≤ 10
  · have hi1 : inR 1 10 [S] = true := by simp [inR]; omega
    by_cases hL : 0 ≤ L ∧ L ≤ S
    · have hi2 : inR 0 S [L] = true := by simp [inR]; omega
      by_cases hm : 12 < xs.length
      · go_enter Try.func21, Try.ntmps21
        go_wp2_with fail
        refine (within_any _ _ _ [S] _ ?_).mono ?_
        · exact Reads.new _ [S] _ _ (by simp) (by simp) _ rfl _ _ rfl
        rintro e w' ⟨rfl, rfl⟩
        go_wp2_with fail
        refine (within_any _ _ _ [L] _ ?_).mono ?_
        · exact Reads.new _ [L] _ _ (by simp) (by simp) _ rfl _ _ rfl
        rintro e w' ⟨rfl, rfl⟩
        go_wp2
        go_ret
        refine ⟨ret_int ?_, (E0.out.alloc _).alloc _⟩
        simp [chk, hS, hL, hm]
      · cases hI : inR 1 (full S.toNat) xs
        all_goals
          go_enter Try.func21, Try.ntmps21
          go_wp2_with fail
          refine (within_any _ _ _ [S] _ ?_).mono ?_
          · exact Reads.new _ [S] _ _ (by simp) (by simp) _ rfl _ _ rfl
          rintro e w' ⟨rfl, rfl⟩
          go_wp2_with fail
          refine (within_any _ _ _ [L] _ ?_).mono ?_
          · exact Reads.new _ [L] _ _ (by simp) (by simp) _ rfl _ _ rfl
          rintro e w' ⟨rfl, rfl⟩
          go_wp2_with fail
          have G0 := Lib.hid ((E0.out.alloc (.cells #[.int .i64 S] 3)).alloc (.cells #[.int .i64 L] 3))
          have G1 := (P0.out.ext ((Ext.refl _).alloc (.cells #[.int .i64 S] 3))).ext ((Ext.refl _).alloc (.cells #[.int .i64 L] 3))
          generalize (((w.alloc (.cells #[.int .i64 S, .int .i64 L, .slice a xs.length cap] 24)).alloc (.cells #[.int .i64 S] 3)).alloc (.cells #[.int .i64 L] 3)) = W at *
          obtain ⟨g1, g2, g3⟩ := G1
          go_region_held3 (fun X => X.cell? ⟨w.heap.size, 0, none⟩ = some (.int .i64 S) ∧ X.cell? ⟨w.heap.size, 1, none⟩ = some (.int .i64 L) ∧ X.cell? ⟨w.heap.size, 2, none⟩ = some (.slice a xs.length cap) ∧ Hid (Ext w X))
            (first | exact ⟨g1, g2, g3, Ext.drew G0.out⟩ | exact ⟨cell_ext (Ext.ofDrew hb) g1, cell_ext (Ext.ofDrew hb) g2, cell_ext (Ext.ofDrew hb) g3, Ext.trans G0.out (Ext.ofDrew hb)⟩ | assumption)
            (first | (go_at_call 58; refine (allStrokes_int _ _ _ _ hS).mono ?_; rintro e w' ⟨rfl, hb⟩) | (go_at_call 57; refine (within_any _ _ _ xs _ (HR.out.ext (Ext.trans G0.out (Ext.ofDrew hb)))).mono ?_; rintro e w' ⟨rfl, rfl⟩))
          have HB := Lib.hid (Ext.trans G0.out (Ext.ofDrew hb)); clear hb
          have HI := Lib.hid hI; clear hI
          go_wp2
          go_ret
          refine ⟨ret_int ?_, HB.out⟩
          simp [chk, hS, hL, hm, HI.out]
    · have hi2 : inR 0 S [L] = false := by cases h : inR 0 S [L]; rfl; simp [inR] at h; omega
      go_enter Try.func21, Try.ntmps21
      go_wp2_with fail
      refine (within_any _ _ _ [S] _ ?_).mono ?_
      · exact Reads.new _ [S] _ _ (by simp) (by simp) _ rfl _ _ rfl
      rintro e w' ⟨rfl, rfl⟩
      go_wp2_with fail
      refine (within_any _ _ _ [L] _ ?_).mono ?_
      · exact Reads.new _ [L] _ _ (by simp) (by simp) _ rfl _ _ rfl
      rintro e w' ⟨rfl, rfl⟩
      go_wp2
      go_ret
      refine ⟨ret_int ?_, (E0.out.alloc _).alloc _⟩
      rw [chk, if_neg]; omega
  · have hi1 : inR 1 10 [S] = false := by cases h : inR 1 10 [S]; rfl; simp [inR] at h; omega
    go_enter Try.func21, Try.ntmps21
    go_wp2_with fail
    refine (within_any _ _ _ [S] _ ?_).mono ?_
    · exact Reads.new _ [S] _ _ (by simp) (by simp) _ rfl _ _ rfl
    rintro e w' ⟨rfl, rfl⟩
    go_wp2
    go_ret
    refine ⟨ret_int ?_, (E0.out.alloc _)⟩
    rw [chk, if_neg]; omega
end Go.Proofs.Ytlgdnbpboonhdaa
namespace Go.Proofs.Ytlgdnbpboonhdaa
open Go.RowKit
set_option linter.unusedVariables false
theorem check22 (S L : Int) (v : Value) (xs : List Int) (w : World) (hr : Reads w v xs) :
    Calls Try.prog 22 #[.agg #[.int .i64 S, .int .i64 L, v]] w fun e w' => e = .returned (.int .i64 (chk S L xs)) ∧ Ext w w' := by
  obtain ⟨hl, a, cap, rfl⟩ := hr.shape
  have hl2 : xs.length ≤ 9223372036854775807 := by omega
  have HR := Lib.hid hr; clear hr
  have p0 := OffAt.new w (.int .i64 S) (.int .i64 L) (.slice a xs.length cap) 24
  have e0 := (Ext.refl w).alloc (.cells #[.int .i64 S, .int .i64 L, .slice a xs.length cap] 24)
  have P0 := Lib.hid p0; have E0 := Lib.hid e0; clear p0 e0
  by_cases hS : (1 ≤ S ∧ S ≤ 10) ∧ 0 ≤ L ∧ L ≤ S
  · by_cases hm : 12 < xs.length
    · obtain ⟨⟨hS1, hS2⟩, hL1, hL2⟩ := hS
      go_enter Try.func22, Try.ntmps22
      go_wp2
      go_ret
      refine ⟨ret_int ?_, E0.out⟩
      rw [chk, if_pos (by omega), if_pos hm]
    · obtain ⟨⟨hS1, hS2⟩, hL1, hL2⟩ := hS
      have hf := full_lt S.toNat (by omega)
      go_enter Try.func22, Try.ntmps22
      go_wp2
      generalize (w.alloc (.cells #[.int .i64 S, .int .i64 L, .slice a xs.length cap] 24)) = W at *
      go_loopw [3] (fun i wr => ∃ k : Nat, k ≤ xs.length ∧ i = .int .i64 k ∧ Hid (Ext W wr) ∧ Hid (inR 1 (full S.toNat) (xs.take k) = true)) (fun i wr => xs.length - (intOf i).toNat)
      case atStart => exact ⟨0, Nat.zero_le _, rfl, Ext.refl _, rfl⟩
      case round =>
        obtain ⟨k, hk, rfl, hE, hI⟩ := hrel
        obtain ⟨g1, g2, g3⟩ := P0.out.ext hE.out
        by_cases hlt : k < xs.length
        · obtain ⟨b, off, x, rfl, hx, hck⟩ := (HR.out.ext (E0.out.trans hE.out)).at hlt
          have HX := Lib.hid hx; clear hx
          have hka : (0 : Int) ≤ (k : Int) := by omega
          have hkb : (k : Int) < (xs.length : Int) := by omega
          by_cases hx1 : x < 1
          · have hd : decide (x < 1) = true := by simpa using hx1
            go_wp2
            go_quiet (fail)
            go_wp2
            go_ret
            refine ⟨ret_int ?_, (E0.out.trans hE.out).drewN _⟩
            rw [chk, if_pos (by omega), if_neg hm, inR_false _ _ _ _ _ HX.out (Or.inl hx1)]; rfl
          · have hd : decide (x < 1) = false := by simpa using hx1
            by_cases hx2 : (full S.toNat : Int) < x
            all_goals
              go_wp2
              have HG0 := Lib.hid (E0.out.trans hE.out)
              go_region_held3 (fun X => X.cell? ⟨w.heap.size, 0, none⟩ = some (.int .i64 S) ∧ X.cell? ⟨w.heap.size, 1, none⟩ = some (.int .i64 L) ∧ X.cell? ⟨w.heap.size, 2, none⟩ = some (.slice (some ⟨b, off, none⟩) xs.length cap) ∧ X.cell? ⟨b, off + k, none⟩ = some (.int .i64 x) ∧ Hid (Ext wr X))
                (first | exact ⟨g1, g2, g3, hck, Ext.drew (Ext.refl _)⟩ | exact ⟨cell_ext (Ext.ofDrew hb) g1, cell_ext (Ext.ofDrew hb) g2, cell_ext (Ext.ofDrew hb) g3, cell_ext (Ext.ofDrew hb) hck, Ext.ofDrew hb⟩ | assumption)
                (first | (go_at_call 43; refine (all43_int _ _ _ _ ⟨hS1, hS2⟩).mono ?_; rintro e w' ⟨rfl, hb⟩))
              have HB := Lib.hid (Ext.ofDrew hb); clear hb
              go_wp2
            · go_ret
              refine ⟨ret_int ?_, HG0.out.trans HB.out⟩
              rw [chk, if_pos (by omega), if_neg hm, inR_false _ _ _ _ _ HX.out (Or.inr hx2)]; rfl
            · go_roundw
              case rel => exact ⟨k + 1, by omega, by go_num, hE.out.trans HB.out, (by rw [inR_snoc _ _ _ _ _ HX.out, hI.out]; simp; omega : _ = _)⟩
              case measure => simp [intOf]; omega
        · go_wp2
          go_ret
          have : k = xs.length := by omega
          subst this
          refine ⟨ret_int ?_, E0.out.trans hE.out⟩
          have := hI.out
          rw [List.take_of_length_le (Nat.le_refl _)] at this
          rw [chk, if_pos (by omega), if_neg hm, this]; rfl
  · have hc : chk S L xs = 3 := by rw [chk, if_neg]; omega
    rw [hc]
    have : S < 1 ∨ (¬ S < 1 ∧ 10 < S) ∨ (¬ S < 1 ∧ ¬ 10 < S ∧ L < 0) ∨ (¬ S < 1 ∧ ¬ 10 < S ∧ ¬ L < 0 ∧ S < L) := by omega
    rcases this with h1 | ⟨h1, h2⟩ | ⟨h1, h2, h3⟩ | ⟨h1, h2, h3, h4⟩
    all_goals
      go_enter Try.func22, Try.ntmps22
      go_wp2
      go_ret
      exact ⟨rfl, E0.out⟩
end Go.Proofs.Ytlgdnbpboonhdaa
namespace Go.Proofs.Ytlgdnbpboonhdaa
open Go.RowKit
set_option linter.unusedVariables false
def ints (ms : List Nat) : List Int := ms.map fun (m : Nat) => (m : Int)
theorem ints_length (ms : List Nat) : (ints ms).length = ms.length := by simp [ints]
theorem ints_get {ms : List Nat} {k : Nat} {x : Int} (h : (ints ms)[k]? = some x) : ∃ m : Nat, ms[k]? = some m ∧ x = m := by
  simp only [ints, List.getElem?_map, Option.map_eq_some_iff] at h
  obtain ⟨m, h1, h2⟩ := h
  exact ⟨m, h1, h2.symm⟩
theorem ints_inj {a b : List Nat} (h : ints a = ints b) : a = b := by
  have := (List.map_inj_right (f := fun (m : Nat) => (m : Int)) (by intro x y h; exact Int.ofNat_inj.1 h)).1 h
  exact this
theorem ints_beq (a b : List Nat) : (ints a == ints b) = (a == b) := by
  rw [Bool.eq_iff_iff]; simp only [beq_iff_eq]
  exact ⟨ints_inj, fun h => by rw [h]⟩
theorem ints_toNat (xs : List Int) (h : ∀ x ∈ xs, 0 ≤ x) : xs = ints (xs.map Int.toNat) := by
  induction xs with
  | nil => rfl
  | cons x l ih =>
    simp only [ints, List.map_cons, List.cons.injEq]
    have h0 := h x (by simp)
    exact ⟨by omega, ih fun y hy => h y (by simp [hy])⟩
def Valid (S L : Nat) (ms : List Nat) : Prop := 1 ≤ S ∧ S ≤ 10 ∧ L ≤ S ∧ ms.length ≤ 12 ∧ ∀ m ∈ ms, 1 ≤ m ∧ m ≤ full S
theorem Valid.lt {S L : Nat} {ms : List Nat} (h : Valid S L ms) {k m : Nat} (hk : ms[k]? = some m) : m < 1024 := by
  have h1 := (h.2.2.2.2 m (List.mem_of_getElem? hk)).2
  have h2 := full_lt S h.2.1
  omega
theorem chk_ok {S L : Nat} {ms : List Nat} (h : Valid S L ms) : chk S L (ints ms) = 0 := by
  obtain ⟨h1, h2, h3, h4, h5⟩ := h
  rw [chk, if_pos (by omega), if_neg (by rw [ints_length]; omega), if_pos]
  simp only [inR, ints, List.all_map, List.all_eq_true]
  intro m hm
  have := h5 m hm
  simp; omega
theorem chk_zero {S L : Int} {xs : List Int} (h : chk S L xs = 0) : ∃ (S' L' : Nat) (ms : List Nat), S = S' ∧ L = L' ∧ xs = ints ms ∧ Valid S' L' ms := by
  unfold chk at h
  split at h
  · rename_i hs
    split at h
    · omega
    · rename_i hm
      split at h
      · rename_i hi
        refine ⟨S.toNat, L.toNat, xs.map Int.toNat, by omega, by omega, ?_, by omega, by omega, by omega, by simp; omega, ?_⟩
        · refine ints_toNat xs fun x hx => ?_
          have := List.all_eq_true.1 hi x hx
          simp at this; omega
        · intro m hm
          obtain ⟨x, hx, rfl⟩ := List.mem_map.1 hm
          have := List.all_eq_true.1 hi x hx
          simp at this; omega
      · omega
  · omega
/-- A slice of the call's own that holds a list. -/
def Owns (B : Nat) (w : World) (v : Value) (xs : List Int) : Prop := w.ownsRow B 3 1 v xs.length (xs.map (Value.int .i64))
theorem Owns.nil (B : Nat) (w : World) : Owns B w (.slice none 0 0) [] := World.ownsRow_nil _ _ _ _
theorem Owns.reads {B : Nat} {w : World} {v : Value} {xs : List Int} (h : Owns B w v xs) (hl : xs.length ≤ 5000) : Reads w v xs := by
  obtain ⟨_, h⟩ := h
  rcases h with ⟨rfl, h0⟩ | ⟨g, cap, cur, rfl, hb, hh, hn, hc, hs, ht⟩
  · have : xs = [] := List.eq_nil_of_length_eq_zero h0
    subst this; exact Reads.nil w
  · refine ⟨hl, _, cap, rfl, .inr ⟨g, 0, rfl, fun i hi => ?_⟩⟩
    have h1 : (cur.toList.take (xs.length * 1))[i]? = some (.int .i64 (xs[i]?.getD 0)) := by
      rw [ht]; simp [hi]
    rw [List.getElem?_take_of_lt (by omega)] at h1
    simp [World.cell?, hh]
    simpa using h1
theorem ownsI_ext {B : Nat} {w w' : World} {v : Value} {xs : List Int} (h : Owns B w v xs) (hb : Ext w w') : Owns B w' v xs := by
  obtain ⟨h1, h2⟩ := h
  refine ⟨h1, h2.imp id ?_⟩
  rintro ⟨g, cap, cur, rfl, hg, hh, r⟩
  refine ⟨g, cap, cur, rfl, hg, ?_, r⟩
  rw [hb.block g (by apply Decidable.byContradiction; intro hn; have : w.heap[g]? = none := by simp; omega
                     rw [this] at hh; cases hh)]
  exact hh
theorem Try.info3 : (Try.prog.info? 3).map (fun i => (i.zero, i.size, i.bytes)) = some (some (.int .i64 0), 1, 8) := by kernel_rfl
/-- 'append(s, x)' onto a list of the call's own. -/
theorem append1 {ops : Array Oper} {rest : List Oper} {o : Oper} {a : Act} {Q : Exit → Act → World → Prop} (w : World) (B : Nat) (xs : List Int) (x : Int) (v : Value) (s t : Operand) (hgd : o.guard = none)
    (ho : o.op = .call { callee := .builtin .append, args := #[s, t], argTypes := #[22, 22] }) (hs : a.eval s = v) (hown : Owns B w v xs) (hB : B ≤ w.heap.size) (hl : xs.length ≤ 5000)
    (hx : a.eval t = .slice (some ⟨w.heap.size, 0, none⟩) 1 1)
    (h : ∀ v' w', Owns B w' v' (xs ++ [x]) → Below B w w' → wpList Try.prog ops Q rest (a.put o.dst v') w') : wpList Try.prog ops Q (o :: rest) a (w.alloc (.cells #[.int .i64 x] 3)) := by
  obtain ⟨i0, hi0, hz0, hz1, hz2⟩ := info_parts Try.info3
  have hown2 : Owns B (w.alloc (.cells #[.int .i64 x] 3)) v xs := ownsI_ext hown ((Ext.refl w).alloc _)
  refine wpList_append_own _ hgd s t 22 ho B 3 i0 (.int .i64 0) 1 8 Try.underlying22 hi0 hz0 hz1 hz2 rfl (by decide) v _ _ hs hown2 ⟨w.heap.size, 0, none⟩ 1 1 [.int .i64 x] hx rfl ?_ ?_ ?_ ?_ ?_ ?_
  · intro j u hj
    match j, hj with
    | 0, hj =>
      simp at hj; subst hj
      rw [show (⟨w.heap.size, 0, none⟩ : Addr).add 0 = ⟨w.heap.size, 0, none⟩ by simp [Addr.add], World.cell?_alloc_at _ _ _ _ rfl]; rfl
  · intro u hu; simp at hu; subst hu; rfl
  · unfold maxLen; omega
  · omega
  · simp; omega
  · intro v' w' h1 h2 _
    refine h v' w' ?_ ?_
    · unfold Owns; simpa using h1
    · have hb0 : Below B w (w.alloc (.cells #[.int .i64 x] 3)) := (Below.refl B w).alloc hB _
      refine hb0.grown h2 (by simp; omega) fun k hk => ?_
      exact (hown2.lt k hk).1
/-- What a round keeps: what lay below a block number, and some blocks besides. -/
def Kp2 (B : Nat) (rs : List Nat) (w w' : World) : Prop := Below B w w' ∧ ∀ r ∈ rs, w'.heap[r]? = w.heap[r]?
theorem Kp2.refl (B : Nat) (rs : List Nat) (w : World) : Kp2 B rs w w := ⟨Below.refl _ _, fun _ _ => rfl⟩
theorem Kp2.trans {B : Nat} {rs : List Nat} {a b c : World} (h : Kp2 B rs a b) (k : Kp2 B rs b c) : Kp2 B rs a c := ⟨h.1.trans k.1, fun r hr => (k.2 r hr).trans (h.2 r hr)⟩
theorem Kp2.drewN {B : Nat} {rs : List Nat} {a b : World} (h : Kp2 B rs a b) (n : Nat) : Kp2 B rs a (b.drewN n) := ⟨⟨h.1.os, h.1.tape, h.1.output, h.1.size, h.1.block⟩, h.2⟩
theorem Kp2.ofDrew {B : Nat} {rs : List Nat} {a b : World} (h : Kp2 B rs a.drew b) : Kp2 B rs a b := ⟨⟨h.1.os, h.1.tape, h.1.output, h.1.size, h.1.block⟩, h.2⟩
theorem Kp2.cell {B : Nat} {rs : List Nat} {a b : World} (h : Kp2 B rs a b) {g o : Nat} (hg : g < B ∨ g ∈ rs) {v : Value} (hc : a.cell? ⟨g, o, none⟩ = some v) : b.cell? ⟨g, o, none⟩ = some v := by
  rcases hg with hg | hg
  · rw [h.1.cell (p := ⟨g, o, none⟩) hg]; exact hc
  · rw [World.cell?_of_block (w := a) (a := ⟨g, o, none⟩) (h.2 g hg)]; exact hc
end Go.Proofs.Ytlgdnbpboonhdaa
