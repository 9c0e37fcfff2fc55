/- fine, by its contract. -/
import Derived.Test.YtppjnpempgpkaaaGreatSO
import Derived.Test.YtppjnpempgpkaaaGreatH7
import Derived.Test.YtppjnpempgpkaaaGreatH6
import Derived.Test.YtppjnpempgpkaaaGreatN3
import Derived.Test.YtppjnpempgpkaaaGreatK1
namespace Go.Proofs.YtppjnpempgpkaaaGreat
open Go.RowKit Go.Shelf
set_option linter.unusedVariables false
set_option linter.unusedSimpArgs false
attribute [local go_sem] Oper.semAt_some

def fineB (W H : Int) (wl kl : List Int) : Bool := !(decide (70 < wl.length) || decide (70 < kl.length)) && decide (chkP W H wl kl = 0)
set_option maxRecDepth 100000 in
set_option maxHeartbeats 4000000 in
theorem fine_c (W H : Int) (aw ak : Option Addr) (cw ck : Nat) (wl kl : List Int) (w : World) (hw : wl.length ≤ 5000 → Reads w (.slice aw wl.length cw) wl) (hk : kl.length ≤ 5000 → Reads w (.slice ak kl.length ck) kl) :
    Calls Tryz.prog 20 #[.agg #[.int .i64 W, .int .i64 H, .slice aw wl.length cw, .slice ak kl.length ck]] w fun e w' => e = .returned (.bool (fineB W H wl kl)) ∧ Ext w w' := by
  obtain ⟨b, hb⟩ : ∃ b, b = fineB W H wl kl := ⟨_, rfl⟩
  rw [← hb]
  unfold fineB at hb
  obtain ⟨nw, hnw⟩ : ∃ n, n = wl.length := ⟨_, rfl⟩
  obtain ⟨nk, hnk⟩ : ∃ n, n = kl.length := ⟨_, rfl⟩
  rw [← hnw] at hw hb ⊢
  rw [← hnk] at hk hb ⊢
  obtain ⟨q, hq⟩ : ∃ q, q = (decide (70 < nw) || decide (70 < nk)) := ⟨_, rfl⟩
  obtain ⟨cp, hcp⟩ : ∃ cp, cp = chkP W H wl kl := ⟨_, rfl⟩
  rw [← hq, ← hcp] at hb
  have HB := Lib.hid hb; have HQ := Lib.hid hq
  have HC := Lib.hid (show q = false → ∀ X : World, Ext w X → Calls Tryz.prog 36 #[.agg #[.int .i64 W, .int .i64 H, .slice aw nw cw, .slice ak nk ck]] X fun e w' => e = .returned (.int .i64 cp) ∧ Ext X w' from fun h X hX => by
    rw [hq, Bool.or_eq_false_iff, decide_eq_false_iff_not, decide_eq_false_iff_not] at h
    rw [hcp]
    exact rcheckPond_c W H nw cw nk ck aw ak wl kl X ((hw (by omega)).ext hX) ((hk (by omega)).ext hX))
  have HG := Lib.hid (show ∀ X : World, Calls Tryz.prog 8 #[.agg #[.int .i64 W, .int .i64 H, .slice aw nw cw, .slice ak nk ck]] X fun e w' => e = .returned (.bool q) ∧ Ext X w' from fun X => by rw [hq]; exact great_c W H nw cw nk ck aw ak X)
  clear hb hq hcp hnw hnk hw hk
  obtain ⟨w1, hw1⟩ : ∃ w1, w1 = w.alloc (.cells #[.int .i64 W, .int .i64 H, .slice aw nw cw, .slice ak nk ck] 24) := ⟨_, rfl⟩
  have HE := Lib.hid (show Ext w w1 from by rw [hw1]; exact (Ext.refl w).alloc _)
  have B0 := Lib.hid (show w1.heap[w.heap.size]? = some (.cells #[.int .i64 W, .int .i64 H, .slice aw nw cw, .slice ak nk ck] 24 (0, 0)) from by rw [hw1]; exact heap_alloc_new w _)
  obtain ⟨z0, z1, z2, z3⟩ := cells4 B0.out
  go_enter Tryz.func20, Tryz.ntmps20
  go_upto_region 1 with fail
  rw [← hw1]
  clear hw1
  go_wp2_with fail
  refine (HG.out _).mono ?_
  rintro e w2 ⟨rfl, h2⟩
  have HE := Lib.hid (HE.out.trans h2); have B0 := Lib.hid (block_ext h2 B0.out)
  clear h2 z0 z1 z2 z3
  cases q
  · obtain ⟨z0, z1, z2, z3⟩ := cells4 B0.out
    go_wp2_with fail
    refine (HC.out (by first | rfl | trivial) _ HE.out).mono ?_
    rintro e w3 ⟨rfl, h2⟩
    have HE := Lib.hid (HE.out.trans h2)
    clear h2 z0 z1 z2 z3
    by_cases h0 : cp = 0
    · have HBT := Lib.hid (show b = true from by rw [HB.out, decide_eq_true h0]; rfl)
      have hcd : decide (cp = 0) = true := decide_eq_true h0
      subst h0
      go_wp2
      go_ret
      exact ⟨ret_bool HBT.out.symm, HE.out⟩
    · have HBF := Lib.hid (show b = false from by rw [HB.out, decide_eq_false h0]; rfl)
      have hcd : decide (cp = 0) = false := decide_eq_false h0
      go_wp2
      go_ret
      exact ⟨ret_bool (by rw [HBF.out]; first | rfl | simp [h0]), HE.out⟩
  · have HBF := Lib.hid (show b = false from by rw [HB.out]; rfl)
    go_wp2
    go_ret
    exact ⟨ret_bool HBF.out.symm, HE.out⟩
end Go.Proofs.YtppjnpempgpkaaaGreat
