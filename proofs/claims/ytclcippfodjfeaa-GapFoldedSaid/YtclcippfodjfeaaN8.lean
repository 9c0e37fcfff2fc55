/- Turning, by its contract. -/
import Derived.Test.YtclcippfodjfeaaN5
import Derived.Test.YtclcippfodjfeaaN7
namespace Go.Proofs.Ytclcippfodjfeaa
open Go.RowKit Go.Shelf
set_option linter.unusedVariables false
set_option linter.unusedSimpArgs false
attribute [local go_sem] Oper.semAt_some
theorem mostV_sumk (row : List Int) (m : Nat) : mostV row (m : Int) = (sumk m (tab row) : Nat) := by
  unfold mostV shapeI shapeL
  rw [sumk_take, Int.toNat_natCast]
  generalize (tab row).map List.length = l
  rw [← List.map_take]
  generalize l.take m = l2
  induction l2 with
  | nil => rfl
  | cons x l ih => simp only [List.map_cons, List.sum_cons, ih]; omega
set_option maxRecDepth 100000 in
set_option maxHeartbeats 2000000 in
theorem turning29 (v : Value) (row : List Int) (many : Int) (w : World) (hr : Reads w v row) :
    Calls Try.prog 29 #[v, .int .i64 many] w fun e w' => ∃ t, (askE row many = 0 → Right row many.toNat t ∧ (takenB t : Int) = mostV row many) ∧ ListRef w (askE row many) t e w' := by
  obtain ⟨hlr, a, cap, rfl⟩ := hr.shape
  have E0 := Lib.hid ((Ext.refl w).alloc (.cells #[.int .i64 many] 3))
  have H48 := Lib.hid (open_many _ (.slice (some ⟨w.heap.size, 0, none⟩) 1 1) row many (w.alloc (.cells #[.int .i64 many] 3)) (hr.ext E0.out) (Reads.new w [many] 3 _ rfl (by simp) _ rfl 1 1 rfl))
  have HR := Lib.hid hr
  clear hr hlr
  by_cases hc : askE row many = 0
  · obtain ⟨hck, hn30, m, rfl, hm⟩ := ask_ok hc
    have H48 := Lib.hid (by have h := H48.out; rw [if_pos hc, hc] at h; exact h)
    rw [hc]
    have HN30 := Lib.hid hn30
    obtain ⟨n, hn⟩ : ∃ n, n = row.length := ⟨_, rfl⟩
    have HNL := Lib.hid hn
    rw [← hn] at H48 HR ⊢
    clear hc hck hn hn30
    go_enter Try.func29, Try.ntmps29
    go_wp2_with fail
    refine H48.out.mono ?_
    rintro e w1 ⟨rfl, hb⟩
    have E1 := Lib.hid ((E0.out.trans hb).alloc (.cells #[.slice a n cap] 57)); clear hb
    go_wp2_with fail
    refine (newNet52 _ a n cap row (HR.out.ext E1.out) (by rw [HNL.out]; exact HN30.out)).mono ?_
    rintro e w3 ⟨bn, mf, rfl, hN⟩
    obtain ⟨q1, q2, q3⟩ := flow_start HN30.out
    have C53 := Lib.hid (send53 _ w3 bn a n cap row mf 0 [] zer62 last0 0 m _ hN q1 q2 q3 LB.zero hm (by omega))
    clear hN q1 q2 q3
    go_wp2_with fail
    refine C53.out.mono ?_
    rintro e w4 ⟨more, F, la, far, vm, nf, hs, rfl, hO, hml, hN4, -, -⟩
    obtain ⟨-, hF, htk, -⟩ := sent_is HN30.out hs
    have HT := Lib.hid (turn_right hF hml)
    have HTK := Lib.hid htk
    have E4 := Lib.hid (E1.out.trans hN4.base)
    have C56 := Lib.hid (turning56 _ w4 bn a n cap row mf nf F far la hN4)
    clear hs hO hN4 C53 hF htk
    go_wp2_with fail
    refine C56.out.mono ?_
    rintro e w5 ⟨g, hg, rfl, hA, hE5⟩
    have hlen : (turnM row F).length ≤ 5000 := by unfold turnM; rw [turnTo_len]; have := HN30.out; omega
    have HRD := Lib.hid (hA.reads hlen rfl ⟨Nat.le_refl _, by omega⟩)
    have E5 := Lib.hid (E4.out.trans hE5)
    obtain ⟨lt, hlt⟩ : ∃ lt, lt = (turnM row F).length := ⟨_, rfl⟩
    rw [← hlt] at HRD ⊢
    clear hA hE5 hlen hlt C56
    go_wp2
    go_ret2
    refine ⟨turnM row F, fun _ => ?_, .inr ⟨rfl, _, rfl, HRD.out⟩, E5.out⟩
    rw [Int.toNat_natCast]
    refine ⟨HT.out.1, ?_⟩
    rw [HT.out.2, HTK.out, mostV_sumk]
  · have H48 := Lib.hid (by have h := H48.out; rw [if_neg hc] at h; exact h)
    have hd : (askE row many != 0) = true := by simpa using hc
    have HC := Lib.hid hc
    clear hc
    generalize askE row many = c at *
    go_enter Try.func29, Try.ntmps29
    go_wp2_with fail
    refine H48.out.mono ?_
    rintro e w1 ⟨rfl, hb⟩
    have E1 := Lib.hid ((E0.out.trans hb).alloc (.cells #[.slice none 0 0] 57)); clear hb
    go_wp2
    go_ret2
    exact ⟨[], fun h => absurd h HC.out, .inl ⟨HC.out, rfl⟩, E1.out⟩
end Go.Proofs.Ytclcippfodjfeaa
