/- BoomTurned: a pond seen another way. Plain. -/
import Derived.Test.YtppjnpempgpkaaaGreatIN
namespace Go.Proofs.YtppjnpempgpkaaaGreat
set_option linter.unusedVariables false
set_option linter.unusedSimpArgs false
theorem up_ext : ∀ {a b : List Nat}, a.Pairwise (· < ·) → b.Pairwise (· < ·) → (∀ x, x ∈ a ↔ x ∈ b) → a = b
  | [], [], _, _, _ => rfl
  | [], y :: b, _, _, h => absurd ((h y).2 (List.mem_cons_self ..)) (by simp)
  | x :: a, [], _, _, h => absurd ((h x).1 (List.mem_cons_self ..)) (by simp)
  | x :: a, y :: b, ha, hb, h => by
    rw [List.pairwise_cons] at ha hb
    have hx := List.mem_cons.1 ((h x).1 (List.mem_cons_self ..))
    have hy := List.mem_cons.1 ((h y).2 (List.mem_cons_self ..))
    have e : x = y := by
      rcases hx with e | hx
      · exact e
      · rcases hy with e | hy
        · exact e.symm
        · have := hb.1 x hx; have := ha.1 y hy; omega
    subst e
    rw [up_ext ha.2 hb.2 fun z => ⟨fun hz => ?_, fun hz => ?_⟩]
    · rcases List.mem_cons.1 ((h z).1 (List.mem_cons_of_mem _ hz)) with e | q
      · have := ha.1 z hz; omega
      · exact q
    · rcases List.mem_cons.1 ((h z).2 (List.mem_cons_of_mem _ hz)) with e | q
      · have := hb.1 z hz; omega
      · exact q
/-- Cells seen another way, each put in its place. -/
def turN (f : Nat → Nat) (l : List Nat) : List Nat := l.foldl (fun o c => insN (f c) o) []
theorem turN_snoc (f : Nat → Nat) (l : List Nat) (c : Nat) : turN f (l ++ [c]) = insN (f c) (turN f l) := by unfold turN; rw [List.foldl_append]; rfl
theorem insN_len (n : Nat) : ∀ l : List Nat, (insN n l).length = l.length + 1
  | [] => rfl
  | x :: l => by
    rw [insN_cons]
    by_cases h : n < x
    · rw [if_pos h]; rfl
    · rw [if_neg h, List.length_cons, insN_len n l]; rfl
theorem turN_len (f : Nat → Nat) (l : List Nat) : (turN f l).length = l.length := by
  suffices h : ∀ (l o : List Nat), (l.foldl (fun o c => insN (f c) o) o).length = o.length + l.length by
    have := h l []; simpa [turN] using this
  intro l
  induction l with
  | nil => intro o; rfl
  | cons c l ih => intro o; rw [List.foldl_cons, ih, insN_len, List.length_cons]; omega
theorem mem_turN {f : Nat → Nat} {x : Nat} {l : List Nat} : x ∈ turN f l ↔ ∃ c ∈ l, f c = x := by
  suffices h : ∀ (l o : List Nat), x ∈ l.foldl (fun o c => insN (f c) o) o ↔ x ∈ o ∨ ∃ c ∈ l, f c = x by
    have := h l []; simpa [turN] using this
  intro l
  induction l with
  | nil => intro o; simp
  | cons c l ih =>
    intro o
    rw [List.foldl_cons, ih, mem_insN]
    constructor
    · rintro ((h | h) | ⟨d, h1, h2⟩)
      · exact .inr ⟨c, List.mem_cons_self .., h.symm⟩
      · exact .inl h
      · exact .inr ⟨d, List.mem_cons_of_mem _ h1, h2⟩
    · rintro (h | ⟨d, h1, h2⟩)
      · exact .inl (.inr h)
      · rcases List.mem_cons.1 h1 with rfl | h1
        · exact .inl (.inl h2.symm)
        · exact .inr ⟨d, h1, h2⟩
theorem turN_up {f : Nat → Nat} {m : Nat} (inj : ∀ c d, c < m → d < m → f c = f d → c = d) : ∀ (l o : List Nat), (∀ c ∈ l, c < m) → l.Nodup → o.Pairwise (· < ·) → (∀ c ∈ l, f c ∉ o) → (l.foldl (fun o c => insN (f c) o) o).Pairwise (· < ·)
  | [], o, _, _, h, _ => h
  | c :: l, o, hl, hn, h, ho => by
    rw [List.foldl_cons]
    rw [List.nodup_cons] at hn
    refine turN_up inj l _ (fun d hd => hl d (List.mem_cons_of_mem _ hd)) hn.2 (insN_up h (ho c (List.mem_cons_self ..))) fun d hd hm => ?_
    rcases mem_insN.1 hm with e | hm
    · have := inj d c (hl d (List.mem_cons_of_mem _ hd)) (hl c (List.mem_cons_self ..)) e
      subst this
      exact hn.1 hd
    · exact ho d (List.mem_cons_of_mem _ hd) hm
theorem turN_lst {f : Nat → Nat} {m m' : Nat} {l : List Nat} (h : Lst m l) (hf : ∀ c, c < m → f c < m') (inj : ∀ c d, c < m → d < m → f c = f d → c = d) : Lst m' (turN f l) :=
  ⟨turN_up inj l [] h.lt h.nodup List.Pairwise.nil (fun c _ hm => by cases hm), fun x hx => by
    obtain ⟨c, hc, rfl⟩ := mem_turN.1 hx
    exact hf c (h.lt c hc)⟩
theorem iso_all {W H W' H' : Nat} {wn kn : List Nat} (hv : VP W H wn kn) (hW1 : 1 ≤ W') (hH1 : 1 ≤ H') (hW' : W' ≤ 8) (hH' : H' ≤ 8) (i : Iso (gridP W H hv.w8 hv.h8) (gridP W' H' hW' hH')) :
    ∃ hv' : VP W' H' (turN i.φ wn) (turN i.φ kn), fewN hv' = fewN hv ∧ turN i.φ (smL hv) = smL hv' ∧ turN i.φ (lgL hv) = lgL hv' := by
  have hlt : ∀ c, c < W * H → i.φ c < W' * H' := fun c hc => (i.to c hc).1
  have inj : ∀ c d, c < W * H → d < W * H → i.φ c = i.φ d → c = d := fun c d hc hd e => by
    rw [← (i.to c hc).2, ← (i.to d hd).2, e]
  have hmem : ∀ {l : List Nat}, (∀ x ∈ l, x < W * H) → ∀ c, c < W * H → (i.φ c ∈ turN i.φ l ↔ c ∈ l) := fun {l} hl c hc => by
    rw [mem_turN]
    constructor
    · rintro ⟨d, hd, e⟩
      have := inj d c (hl d hd) hc e
      subst this
      exact hd
    · intro h
      exact ⟨c, h, rfl⟩
  have hv' : VP W' H' (turN i.φ wn) (turN i.φ kn) := ⟨hW1, hW', hH1, hH', turN_lst hv.want hlt inj, turN_lst hv.keep hlt inj, fun x hx hw => by
    obtain ⟨c, hc, rfl⟩ := mem_turN.1 hx
    exact hv.dis c hc ((hmem hv.want.lt c (hv.keep.lt c hc)).1 hw)⟩
  refine ⟨hv', ?_⟩
  have B := i.best (want' := wantB (turN i.φ wn)) (keep' := memL (turN i.φ kn)) hv.pond.best (fun c hc => decide_eq_decide.2 (hmem hv.want.lt c hc)) (fun c hc => decide_eq_decide.2 (hmem hv.keep.lt c hc))
  obtain ⟨e1, e2⟩ := best_one hv'.pond.best B
  have hlist : ∀ {f g : Nat → Bool}, (∀ x, x < W' * H' → g x = f (i.ψ x)) → turN i.φ ((List.range (W * H)).filter f) = (List.range (W' * H')).filter g := fun {f g} h => by
    refine up_ext (turN_lst (filter_lst (W * H) f) hlt inj).up (filter_lst (W' * H') g).up fun x => ?_
    rw [mem_turN]
    constructor
    · rintro ⟨c, hc, rfl⟩
      obtain ⟨h1, h2⟩ := List.mem_filter.1 hc
      have hc1 := List.mem_range.1 h1
      refine List.mem_filter.2 ⟨List.mem_range.2 (hlt c hc1), ?_⟩
      rw [h _ (hlt c hc1), (i.to c hc1).2, h2]
    · intro hx
      obtain ⟨h1, h2⟩ := List.mem_filter.1 hx
      have hx1 := List.mem_range.1 h1
      obtain ⟨h3, h4⟩ := i.fro x hx1
      exact ⟨i.ψ x, List.mem_filter.2 ⟨List.mem_range.2 h3, by rw [← h x hx1]; exact h2⟩, h4⟩
  exact ⟨e1, hlist fun x hx => (e2 x hx).1, hlist fun x hx => (e2 x hx).2⟩
end Go.Proofs.YtppjnpempgpkaaaGreat
