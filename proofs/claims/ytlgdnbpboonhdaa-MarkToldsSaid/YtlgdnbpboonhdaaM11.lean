/- Contracts of shared and lost. -/
import Derived.Test.YtlgdnbpboonhdaaM9
import Derived.Deep.MidRow
namespace Go.Proofs.Ytlgdnbpboonhdaa
open Go.RowKit
set_option linter.unusedVariables false
/-- What the walk is told of a register: its office's cells, and its marks. -/
def RegAt (X : World) (b : Nat) (S L : Nat) (v : Value) (ms : List Nat) : Prop := OffAt X b (.int .i64 (S : Int)) (.int .i64 (L : Int)) v ∧ Reads X v (ints ms)
theorem RegAt.ext {w w' : World} {b S L : Nat} {v : Value} {ms : List Nat} (h : RegAt w b S L v ms) (hb : Ext w w') : RegAt w' b S L v ms := ⟨h.1.ext hb, h.2.ext hb⟩
theorem Reads.atN {w : World} {a : Option Addr} {n cap : Nat} {ms : List Nat} (h : Reads w (.slice a n cap) (ints ms)) {k m : Nat} (hk : ms[k]? = some m) :
    ∃ b off, a = some ⟨b, off, none⟩ ∧ n = ms.length ∧ w.cell? ⟨b, off + k, none⟩ = some (.int .i64 (m : Int)) := by
  have hi : k < ms.length := (List.getElem?_eq_some_iff.1 hk).1
  obtain ⟨b, off, x, rfl, hx, hc⟩ := h.at (k := k) (by rw [ints_length]; exact hi)
  obtain ⟨m', hm', rfl⟩ := ints_get hx
  rw [hk] at hm'; cases hm'
  obtain ⟨_, _, _, e, _⟩ := h
  cases e
  exact ⟨b, off, rfl, ints_length ms, hc⟩
theorem shared93 (b S L i k m n : Nat) (ms : List Nat) (v : Value) (w : World) (hr : RegAt w b S L v ms) (hi : ms[i]? = some m) (hk : ms[k]? = some n) (hm : m < 1024) (hn : n < 1024) :
    Calls Try.prog 93 #[.pointer (some ⟨b, 0, none⟩), .agg #[.int .i64 (i : Int), .int .i64 (k : Int)]] w fun e w' => e = .returned (.int .i64 ((m &&& n : Nat) : Int)) ∧ Ext w w' := by
  obtain ⟨⟨h1, h2, h3⟩, hv⟩ := hr
  obtain ⟨hl, a, cap, rfl⟩ := hv.shape
  have hi' : i < ms.length := (List.getElem?_eq_some_iff.1 hi).1
  have hk' : k < ms.length := (List.getElem?_eq_some_iff.1 hk).1
  obtain ⟨b1, off, rfl, hlen, hc1⟩ := hv.atN hi
  obtain ⟨b1', off', e, _, hc2⟩ := hv.atN hk
  cases e
  rw [hlen] at hl h3
  have hA := and_nat m n (by omega) (by omega)
  have E0 := (Ext.refl w).alloc (.cells #[.int .i64 (i : Int), .int .i64 (k : Int)] 76)
  replace h1 := cell_ext E0 h1
  replace h3 := cell_ext E0 h3
  replace hc1 := cell_ext E0 hc1
  replace hc2 := cell_ext E0 hc2
  have g1 : (w.alloc (.cells #[.int .i64 (i : Int), .int .i64 (k : Int)] 76)).cell? ⟨w.heap.size, 0, none⟩ = some (.int .i64 (i : Int)) := World.cell?_alloc_at _ _ _ _ rfl
  have g2 : (w.alloc (.cells #[.int .i64 (i : Int), .int .i64 (k : Int)] 76)).cell? ⟨w.heap.size, 1, none⟩ = some (.int .i64 (k : Int)) := World.cell?_alloc_at _ _ _ _ rfl
  have E0' := Lib.hid E0
  clear hi hk hv h1 h2 hlen E0
  go_enter Try.func93, Try.ntmps93
  go_wp2
  generalize (w.alloc (.cells #[.int .i64 (i : Int), .int .i64 (k : Int)] 76)) = W at *
  have hka : (0 : Int) ≤ (i : Int) := by omega
  have hkb : (i : Int) < (ms.length : Int) := by omega
  have hkc : (0 : Int) ≤ (k : Int) := by omega
  have hkd : (k : Int) < (ms.length : Int) := by omega
  go_quiet (fail)
  go_wp2
  go_ret
  refine ⟨ret_int ?_, E0'.out.drewN _⟩
  first | exact hA | rfl | simpa using hA
end Go.Proofs.Ytlgdnbpboonhdaa
