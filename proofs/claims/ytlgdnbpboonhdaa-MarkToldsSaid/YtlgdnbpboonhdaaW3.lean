/- first at sets, and Keep. -/
import Derived.Test.YtlgdnbpboonhdaaW2
namespace Go.Proofs.Ytlgdnbpboonhdaa
open Go.RowKit Go.Shelf Go.Maps
set_option linter.unusedVariables false
attribute [local go_sem] Oper.semAt_some
/-- The order of sets, as the program reckons it. -/
def fewO (a b : Nat) : Int := orL [cmpI (pc a) (pc b), cmpI (bits .and .i64 b (bits .and .i64 ((a ^^^ b : Nat) : Int) (-((a ^^^ b : Nat) : Int)))) (bits .and .i64 a (bits .and .i64 ((a ^^^ b : Nat) : Int) (-((a ^^^ b : Nat) : Int))))]
def bestBy (acc : Option Nat) (x : Nat) : Option Nat := match acc with | none => some x | some p => if fewO x p < 0 then some x else some p
def firstBy (ys : List Nat) : Option Nat := ys.foldl bestBy none
theorem firstBy_snoc (ys : List Nat) (x : Nat) : firstBy (ys ++ [x]) = bestBy (firstBy ys) x := by simp [firstBy]
theorem firstBy_mem : ∀ (ys : List Nat) (p : Nat), firstBy ys = some p → p ∈ ys := by
  have : ∀ (ys : List Nat) (acc : Option Nat) (p : Nat), ys.foldl bestBy acc = some p → acc = some p ∨ p ∈ ys := by
    intro ys
    induction ys with
    | nil => intro acc p h; exact .inl h
    | cons x l ih =>
      intro acc p h
      rcases ih _ _ h with h1 | h1
      · unfold bestBy at h1
        cases acc with
        | none => simp at h1; exact .inr (by simp [h1])
        | some q =>
          dsimp only at h1
          split at h1
          · simp at h1; exact .inr (by simp [h1])
          · exact .inl h1
      · exact .inr (List.mem_cons_of_mem _ h1)
  intro ys p h
  rcases this ys none p h with h1 | h1
  · cases h1
  · exact h1
theorem vals_lt {m : Nat} (hm : m < 1024) {ys : List (SubOf m)} {x : Nat} (h : x ∈ vals m ys) : x < 1024 := by
  unfold vals at h
  obtain ⟨y, -, rfl⟩ := List.mem_map.1 h
  have := sub_le _ _ y.2
  omega
def Inv72 (w : World) (m : Nat) (pre : List (SubOf m)) (X : World) : Prop :=
  (Boxed X (w.heap.size + 1) 3 (.int .i64 (((firstBy (vals m pre)).getD 0 : Nat) : Int)) ∧ Boxed X (w.heap.size + 1 + 1) 4 (.bool (firstBy (vals m pre)).isSome) ∧ Boxed X w.heap.size 91 (.func (.func 74) #[] #[])) ∧ Below w.heap.size w X
theorem stored72 {w X : World} {m : Nat} {pre : List (SubOf m)} {x : SubOf m} {u : Value} {fb : Bool} (hf : firstBy (vals m (pre ++ [x])) = some x.1) (h1 : Boxed X (w.heap.size + 1) 3 u) (h2 : Boxed X (w.heap.size + 1 + 1) 4 (.bool fb)) (h0 : Boxed X w.heap.size 91 (.func (.func 74) #[] #[])) (hE : Below w.heap.size w X) :
    KeepBut [w.heap.size + 1, w.heap.size + 1 + 1] X ((X.setCell ⟨w.heap.size + 1, 0, none⟩ (.int .i64 (x.1 : Int))).setCell ⟨w.heap.size + 1 + 1, 0, none⟩ (.bool true)) ∧
    Inv72 w m (pre ++ [x]) ((X.setCell ⟨w.heap.size + 1, 0, none⟩ (.int .i64 (x.1 : Int))).setCell ⟨w.heap.size + 1 + 1, 0, none⟩ (.bool true)) := by
  refine ⟨(KeepBut.set X (by simp) _).trans (KeepBut.set _ (by simp) _), ⟨?_, ?_, ?_⟩, ?_⟩
  · rw [hf]
    show Boxed _ _ _ (.int .i64 (x.1 : Int))
    exact (h1.set _).other (by omega) _
  · rw [hf]
    exact (h2.other (by omega) _).set _
  · exact (h0.other (by omega) _).other (by omega) _
  · exact (hE.setCell (p := ⟨w.heap.size + 1, 0, none⟩) (by simp) _).setCell (p := ⟨w.heap.size + 1 + 1, 0, none⟩) (by simp; omega) _
set_option maxRecDepth 100000 in
set_option maxHeartbeats 4000000 in
theorem first72 (b S L i Br Bo : Nat) (ms : List Nat) (v : Value) (w : World) (hv : Valid S L ms) (hr : RegAt w b S L v ms) (hi : i < ms.length) (hBr : Boxed w Br 63 (.pointer (some ⟨b, 0, none⟩))) (hBo : Boxed w Bo 3 (.int .i64 (i : Int))) :
    Calls Try.prog 72 #[.func (.func 99) #[] #[.pointer (some ⟨Br, 0, none⟩), .pointer (some ⟨Bo, 0, none⟩)], .func (.func 74) #[] #[]] w fun e w' =>
      e = .returned (.tuple #[.int .i64 (((firstBy ((wornL (mAt ms i) S).filter (othB ms i))).getD 0 : Nat) : Int), .bool (firstBy ((wornL (mAt ms i) S).filter (othB ms i))).isSome]) ∧ Ext w w' := by
  refine (callsIn_wide (n := 10)).1 ?_
  refine callsIn_of_wp_marks Try.func72 rfl trivial ?_ rfl
  simp only [Try.ntmps72, List.size_toArray, List.length_cons, List.length_nil, Nat.reduceAdd, Nat.reduceSub, Array.replicate_succ, Array.replicate_zero, List.push_toArray, List.append_toArray, List.nil_append, List.cons_append]
  gi_wp2
  have hm1024 : mAt ms i < 1024 := hv.lt (k := i) (by simp [mAt, hi])
  have b0 := ((Boxed.new w 91 (.func (.func 74) #[] #[])).alloc (.cells #[.int .i64 0] 3)).alloc (.cells #[.bool false] 4)
  have b1 := (Boxed.new (w.alloc (.cells #[.func (.func 74) #[] #[]] 91)) 3 (.int .i64 0)).alloc (.cells #[.bool false] 4)
  have b2 := Boxed.new ((w.alloc (.cells #[.func (.func 74) #[] #[]] 91)).alloc (.cells #[.int .i64 0] 3)) 4 (.bool false)
  have hB0 : Ext w (((w.alloc (.cells #[.func (.func 74) #[] #[]] 91)).alloc (.cells #[.int .i64 0] 3)).alloc (.cells #[.bool false] 4)) := (((Ext.refl w).alloc _).alloc _).alloc _
  have hsz : (((w.alloc (.cells #[.func (.func 74) #[] #[]] 91)).alloc (.cells #[.int .i64 0] 3)).alloc (.cells #[.bool false] 4)).heap.size = w.heap.size + 3 := by simp
  simp only [World.size_alloc] at b1 b2
  obtain ⟨W0, hW0⟩ : ∃ W0, ((w.alloc (.cells #[.func (.func 74) #[] #[]] 91)).alloc (.cells #[.int .i64 0] 3)).alloc (.cells #[.bool false] 4) = W0 := ⟨_, rfl⟩
  rw [hW0] at b0 b1 b2 hB0 hsz ⊢
  clear hW0
  refine wp_seqAny (by omega) (gf := 99) (lb := #[.pointer (some ⟨Br, 0, none⟩), .pointer (some ⟨Bo, 0, none⟩)]) (rs := [w.heap.size + 1, w.heap.size + 1 + 1]) rfl (enters_of Try.func99 (by kernel_rfl) rfl)
    (telling99 9 Br Bo b S L i ms v w W0 [w.heap.size + 1, w.heap.size + 1 + 1] (by omega) hv hr hi hBr hBo hB0 (by intro r hr; simp at hr; omega)) (Below.refl _ _) (fun _ => rfl) (by intro r hr; simp at hr; omega)
    (Inv72 w (mAt ms i)) ?hI ⟨⟨b1, b2, b0⟩, hB0⟩
    (fun x => { tmps := #[.func (.func 99) #[] #[.pointer (some ⟨Br, 0, none⟩), .pointer (some ⟨Bo, 0, none⟩)], .func (.func 74) #[] #[], undef, .pointer (some ⟨w.heap.size, 0, none⟩), .int .i64 0, .bool false, .pointer (some ⟨w.heap.size + 1, 0, none⟩), .pointer (some ⟨w.heap.size + 1 + 1, 0, none⟩), .int .i64 (x.1 : Int), .func (.func 99) #[] #[.pointer (some ⟨Br, 0, none⟩), .pointer (some ⟨Bo, 0, none⟩)], .int .i64 (x.1 : Int), undef, undef, undef, undef, undef, undef, undef, undef, undef, undef, undef, undef], defers := [] })
    ?assign ?body ?done
  case hI => exact OwnFrom.and (fun s A B row hs hg hr => ⟨boxed_turn hs.1 hg hr, boxed_turn hs.2.1 hg hr, boxed_turn hs.2.2 hg hr⟩) (ownFrom_below (Nat.le_refl _) hB0.size)
  case assign =>
    rintro l x W K hK
    dsimp only [encS]
    gi_wp2
    exact hK
  case body =>
    rintro l pre x X hl ⟨⟨q1, q2, q0⟩, hE⟩ hlen
    obtain ⟨x, hx⟩ := x
    have hx1024 : x < 1024 := by have := sub_le _ _ hx; omega
    have hsn := firstBy_snoc (vals (mAt ms i) pre) x
    rw [show vals (mAt ms i) pre ++ [x] = vals (mAt ms i) (pre ++ [⟨x, hx⟩]) from (vals_snoc (mAt ms i) pre ⟨x, hx⟩).symm] at hsn
    obtain ⟨fb, hfb⟩ : ∃ fb, fb = firstBy (vals (mAt ms i) pre) := ⟨_, rfl⟩
    rw [← hfb] at q1 q2 hsn
    have c0 := q0.cell
    have c1 := q1.cell
    have c2 := q2.cell
    have f1 := q1.frozen
    have f2 := q2.frozen
    have Q0 := Lib.hid q0; have Q1 := Lib.hid q1; have Q2 := Lib.hid q2; have HE := Lib.hid hE; have HSN := Lib.hid hsn; have HFB := Lib.hid hfb
    clear q0 q1 q2 hE hsn hfb b0 b1 b2
    dsimp only
    cases fb with
    | none =>
      gi_wp2
      refine ⟨fun f h => (by cases h), ?_⟩
      gi_wp2
      exact stored72 (x := ⟨x, hx⟩) HSN.out Q1.out Q2.out Q0.out HE.out
    | some p =>
      have hp1024 : p < 1024 := vals_lt hm1024 (firstBy_mem _ _ HFB.out.symm)
      simp only [Option.getD_some, Option.isSome_some] at c1 c2
      have h74 := fewest74_any x p hx1024 hp1024 X
      obtain ⟨o, ho⟩ : ∃ o : Int, o = fewO x p := ⟨_, rfl⟩
      have H74 : Hid (Calls Try.prog 74 #[.int .i64 (x : Int), .int .i64 (p : Int)] X fun e w' => e = .returned (.int .i64 o) ∧ Ext X w') := by rw [ho]; exact h74
      have HO := Lib.hid ho
      clear h74 ho
      by_cases hneg : o < 0
      · gi_wp2_with (refine ⟨trivial, ?_⟩; gi_at_call 74; refine (CallsIn.inRound l (callsIn_wide.2 H74.out)).mono ?_; rintro e w' ⟨rfl, hb⟩; have f1 := Boxed.frozen (block_ext hb Q1.out); have f2 := Boxed.frozen (block_ext hb Q2.out); have c1 := cell_ext hb c1; have c2 := cell_ext hb c2; have HB := Lib.hid hb; clear hb)
        have hs : firstBy (vals (mAt ms i) (pre ++ [⟨x, hx⟩])) = some x := by
          rw [HSN.out]; simp [bestBy]; rw [← HO.out]; intro h; omega
        obtain ⟨k1, k2⟩ := stored72 (x := ⟨x, hx⟩) hs (block_ext HB.out Q1.out) (block_ext HB.out Q2.out) (block_ext HB.out Q0.out) (HE.out.trans (HB.out.mono HE.out.size))
        exact ⟨(KeepBut.ext HB.out).trans k1, k2⟩
      · gi_wp2_with (refine ⟨trivial, ?_⟩; gi_at_call 74; refine (CallsIn.inRound l (callsIn_wide.2 H74.out)).mono ?_; rintro e w' ⟨rfl, hb⟩; have HB := Lib.hid hb; clear hb)
        have hs : firstBy (vals (mAt ms i) (pre ++ [⟨x, hx⟩])) = some p := by
          rw [HSN.out]; simp [bestBy]; rw [← HO.out]; intro h; omega
        refine ⟨KeepBut.ext HB.out, ⟨?_, ?_, block_ext HB.out Q0.out⟩, HE.out.trans (HB.out.mono HE.out.size)⟩
        · rw [hs]; exact block_ext HB.out Q1.out
        · rw [hs]; exact block_ext HB.out Q2.out
  case done =>
    rintro D ys X hD hS ⟨⟨q1, q2, q0⟩, hE⟩ hDW
    rw [show vals (mAt ms i) ys = (wornL (mAt ms i) S).filter (othB ms i) from hS] at q1 q2
    have c1 := q1.cell
    have c2 := q2.cell
    obtain ⟨fb, hfb⟩ : ∃ fb, fb = firstBy ((wornL (mAt ms i) S).filter (othB ms i)) := ⟨_, rfl⟩
    rw [← hfb] at q1 q2 c1 c2
    have HFB := Lib.hid hfb
    have HDW := Lib.hid hDW; have HE := Lib.hid hE
    clear hDW hE hS q0 q1 q2 hfb b0 b1 b2
    have hmix : Try.prog.follows .mixedOrders = true := by kernel_rfl
    gi_wp2
    gi_region
    all_goals
      gi_wp2
      refine ⟨by simp, .inl ⟨_, _, rfl, run_takeDeferred (w := X.drew) HDW.out, ?_⟩⟩
      refine ⟨.tuple #[.int .i64 ((fb.getD 0 : Nat) : Int), .bool fb.isSome], ?_, ?_, ?_⟩
      · simp [results, Try.results72, go_sem]
      · rw [HFB.out]
      · exact (HE.out.drew).trans (belowK_b (w := w) (Nat.le_refl _) X.drew D _ _ (by omega) HDW.out rfl rfl)
end Go.Proofs.Ytlgdnbpboonhdaa
