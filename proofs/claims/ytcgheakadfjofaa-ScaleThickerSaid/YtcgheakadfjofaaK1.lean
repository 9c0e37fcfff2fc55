/- Cutting, by its contract: a cutting of a valid stem. -/
import Derived.Test.YtcgheakadfjofaaK0
import Derived.Test.YtcgheakadfjofaaO1
import Derived.Test.YtcgheakadfjofaaY1
namespace Go.Proofs.Ytcgheakadfjofaa
open Go.RowKit
set_option linter.unusedVariables false
set_option linter.unusedSimpArgs false
attribute [local go_sem] Oper.semAt_some
theorem Reads8.shape {w : World} {v : Value} {xs : List Nat} (h : Reads8 w v xs) : xs.length ≤ 5000 ∧ ∃ a cap, v = .slice a xs.length cap := ⟨h.1, let ⟨a, cap, e, _⟩ := h.2; ⟨a, cap, e⟩⟩
/-- The number that a value is. -/
def intV : Value → Int
  | .int _ x => x
  | _ => 0
theorem lgI_len (c : List (Nat × Nat)) : (lgI c).length = c.length := by simp [lgI]
theorem lgI_snoc (c : List (Nat × Nat)) (i j : Nat) : lgI (c ++ [(i, j)]) = lgI c ++ [((i : Int), (j : Int))] := by simp [lgI]
set_option maxRecDepth 100000 in
set_option maxHeartbeats 2000000 in
theorem cutting41 (vt vb v8 : Value) (th bd : List Int) (r : Rl) (ns : List Nat) (w : World) (ht : Reads w vt th) (hd : Reads w vb bd) (h8 : Reads8 w v8 ns) (hb8 : ∀ x ∈ ns, x ≤ 255) (h60 : ns.length ≤ 60) (hE : bothE th bd r = 0) :
    Calls Try.prog 41 #[.agg #[vt, vb], r.val, v8] w fun e w' => ∃ v c, e = .returned v ∧ ReadsLg w' v (lgI c) ∧ Cuts (sF th bd r) allB (th.length - 1) 0 c ∧ Ext w w' := by
  obtain ⟨hl, a, cap, rfl⟩ := ht.shape
  obtain ⟨hl8, a8, cap8, rfl⟩ := h8.shape
  obtain ⟨hv61, hv62⟩ := vs_len hE
  have hvw := (bothE_ok.1 hE).1.weak (bothE_ok.1 hE).2
  obtain ⟨q1, q2, q3, q4, q5, q6, q7, q8, q9, q10, q11, q12, q13⟩ := hvw.rule
  obtain ⟨F, hF⟩ : ∃ F, F = sF th bd r := ⟨_, rfl⟩
  have h45 : ∀ (i j : Nat) (W : World), Ext w W → i < j → j < th.length → Calls Try.prog 45 #[.agg #[.slice a th.length cap, vb], r.val, .int .i64 (i : Int), .int .i64 (j : Int)] W fun e w' => e = .returned (.int .i64 (F i j)) ∧ Ext W w' := fun i j W h h1 h2 => by
    rw [hF]; exact refscale45 _ _ th bd r i j W (ht.ext h) (hd.ext h) hvw h1 h2
  rw [← hF]
  obtain ⟨n1, hn⟩ : ∃ n, n = th.length := ⟨_, rfl⟩
  obtain ⟨m8, hm8⟩ : ∃ n, n = ns.length := ⟨_, rfl⟩
  rw [← hn] at ht hl hv61 hv62 h45 ⊢
  rw [← hm8] at h8 hl8 h60 ⊢
  have E0 := Lib.hid (Ext.alloc (Ext.alloc (Ext.refl w) (.cells #[.slice a n1 cap, vb] 25)) (.cells #[.int .i64 r.lo, .int .i64 r.hi, .int .i64 r.st, .int .i64 r.tr, .int .i64 r.off, .int .i64 r.dv, .int .i64 r.tn] 27))
  have P0 := Lib.hid (SR.new w (.slice a n1 cap) vb r)
  have C43 := Lib.hid (fun (W : World) => long43 a n1 cap vb W hl)
  have C45 := Lib.hid h45
  have HM := Lib.hid hm8; have HB8 := Lib.hid hb8
  have H8 := Lib.hid h8
  obtain ⟨W0, hW0⟩ : ∃ W0, W0 = (w.alloc (.cells #[.slice a n1 cap, vb] 25)).alloc (.cells #[.int .i64 r.lo, .int .i64 r.hi, .int .i64 r.st, .int .i64 r.tr, .int .i64 r.off, .int .i64 r.dv, .int .i64 r.tn] 27) := ⟨_, rfl⟩
  have hsz : W0.heap.size = w.heap.size + 1 + 1 := by rw [hW0]; simp
  rw [← hW0] at E0 P0
  have HW0 := Lib.hid hW0; have HSZ := Lib.hid hsz
  clear h45 hF hn hm8 hb8 ht hd h8 hE hvw hW0 hsz
  go_enter Try.func41, Try.ntmps41
  go_wp2_with fail
  rw [← HW0.out]
  go_loopw [7, 8, 9] (fun o s i wr => ∃ (k at_ : Nat) (c : List (Nat × Nat)), 2 * k ≤ m8 + 1 ∧ at_ + 1 ≤ n1 ∧ c.length ≤ k ∧ i = .int .i64 (((2 * k : Nat)) : Int) ∧ s = .int .i64 (at_ : Int) ∧ Hid (OwnLg W0.heap.size wr o (lgI c)) ∧ Hid (Cuts F allB at_ 0 c) ∧ Hid (Ext W0 wr)) (fun o s i wr => m8 + 2 - (intV i).toNat)
  case atStart => exact ⟨0, 0, [], by omega, by omega, Nat.le_refl _, rfl, rfl, Lib.hid (OwnLg.nil _ _), Lib.hid trivial, Lib.hid (Ext.refl _)⟩
  case round =>
    obtain ⟨k, at_, c, hk, hat, hck, rfl, rfl, hO, hC, hX⟩ := hrel
    obtain ⟨ao, capo, rfl, hcapo⟩ := hO.out.shape
    have hlen := lgI_len c
    obtain ⟨cl, hcl⟩ : ∃ m, m = (lgI c).length := ⟨_, rfl⟩
    rw [← hcl] at hO hcapo hlen ⊢
    have HCL := Lib.hid hcl
    have hl60 : (cl : Int) < 60 := by omega
    have HLEN := Lib.hid hlen
    clear hcl hlen
    have hw1 : IntKind.i64.wrap (((2 * k : Nat) : Int) + 1) = ((2 * k + 1 : Nat) : Int) := by rw [wrapi64 _ (by omega) (by omega)]; omega
    have hw2 : IntKind.i64.wrap (((2 * k : Nat) : Int) + 2) = ((2 * (k + 1) : Nat) : Int) := by rw [wrapi64 _ (by omega) (by omega)]; omega
    obtain ⟨⟨g1, g2⟩, r0, r1, r2, r3, r4, r5, r6⟩ := P0.out.ext hX.out
    by_cases hlt : 2 * k + 1 < m8
    · obtain ⟨x1, hx1⟩ := get_some (show 2 * k < ns.length by rw [← HM.out]; omega)
      obtain ⟨x2, hx2⟩ := get_some (show 2 * k + 1 < ns.length by rw [← HM.out]; omega)
      obtain ⟨b8, off, rfl, c1⟩ := (H8.out.ext (E0.out.trans hX.out)).at hx1
      obtain ⟨b8', off', e8, c2⟩ := (H8.out.ext (E0.out.trans hX.out)).at hx2
      cases e8
      have hx1b := HB8.out x1 (List.mem_of_getElem? hx1)
      have hx2b := HB8.out x2 (List.mem_of_getElem? hx2)
      clear hx1 hx2
      have hlt1 : ((2 * k + 1 : Nat) : Int) < (m8 : Int) := by omega
      go_wp2_with fail
      obtain ⟨q, hq⟩ : ∃ q : Nat, (q : Int) = (x2 : Int) % 8 * r.st := ⟨((x2 : Int) % 8 * r.st).toNat, by
        have := Int.mul_nonneg (show 0 ≤ (x2 : Int) % 8 by omega) (show 0 ≤ r.st by omega)
        omega⟩
      have hq70 : (q : Int) ≤ 70 := by
        have : (x2 : Int) % 8 * r.st ≤ 7 * 10 := Int.mul_le_mul (by omega) (by omega) (by omega) (by omega)
        omega
      have hm8 : IntKind.i64.wrap ((x2 : Int) % 8 * r.st) = (q : Int) := by rw [← hq]; exact wrapi64 _ (by omega) (by omega)
      clear hq
      go_quiet (fail)
      obtain ⟨A, hA⟩ : ∃ A : Nat, A = at_ + x1 % 4 := ⟨_, rfl⟩
      have hA1 : (at_ : Int) + (x1 : Int) % 4 = (A : Int) := by omega
      obtain ⟨B, hB1⟩ : ∃ B : Nat, (B : Int) = (A : Int) + r.tr + r.lo + (q : Int) := ⟨((A : Int) + r.tr + r.lo + (q : Int)).toNat, by omega⟩
      rw [hA1, ← hB1]
      have hAB : A < B := by omega
      have hAt : at_ ≤ A := by omega
      have hBb : B ≤ 2000 := by omega
      clear hA hA1 hB1 hm8 hq70 c1 c2 hx1b hx2b r0 r1 r2 r3 r4 r5 r6 hlt1
      go_wp2_with fail
      refine (C43.out _).mono ?_
      rintro e w3 ⟨rfl, hb⟩
      have hb3 := (Ext.drewN (Ext.refl wr) _).trans hb
      have HX3 := Lib.hid (hX.out.trans hb3)
      have HO3 := Lib.hid (hO.out.ext hb3)
      obtain ⟨⟨g1, g2⟩, r0, r1, r2, r3, r4, r5, r6⟩ := P0.out.ext HX3.out
      clear hb hb3
      by_cases hto : B < n1
      · have hgt : decide ((B : Int) > (n1 : Int) - 1) = false := by simp; omega
        have hgt2 : decide ((n1 : Int) - 1 < (B : Int)) = false := by simp; omega
        go_wp2_with fail
        refine (C45.out A B _ (E0.out.trans HX3.out) hAB hto).mono ?_
        rintro e w4 ⟨rfl, hb⟩
        have HX4 := Lib.hid (HX3.out.trans hb)
        have HO4 := Lib.hid (HO3.out.ext hb)
        clear hb g1 g2 r0 r1 r2 r3 r4 r5 r6
        by_cases hf : 0 < F A B
        · have HF := Lib.hid hf
          have hfd : decide (F A B > 0) = true := by simpa using hf
          have hfd2 : decide (0 < F A B) = true := by simpa using hf
          go_wp2_with fail
          refine (log46 _ _ _).mono ?_
          rintro e w5 ⟨rfl, hb⟩
          have HX5 := Lib.hid (HX4.out.trans hb)
          have HO5 := Lib.hid (HO4.out.ext hb)
          clear hb
          go_wp2_with (at_builtin; first
            | (refine appendL w5 W0.heap.size (lgI c) _ _ _ _ _ rfl rfl rfl HO5.out HX5.out.size (by rw [← HCL.out]; omega) rfl ?_
               intro v6 w6 hO6 hB6
               have HO6 := Lib.hid hO6
               have HB6 := Lib.hid hB6
               clear hO6 hB6)
            | fail)
          go_roundw
          case rel => exact ⟨k + 1, B, c ++ [(A, B)], by omega, by omega, by rw [List.length_append]; simp; exact hck, by rw [← hw2]; go_num, rfl, Lib.hid (by rw [lgI_snoc]; exact HO6.out), Lib.hid (cuts_snoc hAB HF.out rfl (Nat.le_refl _) c 0 (Nat.zero_le _) (cuts_more hAt hC.out)), Lib.hid (Below.trans HX5.out HB6.out)⟩
          case measure => simp [intV]; omega
        · have hfd : decide (F A B > 0) = false := by simpa using hf
          have hfd2 : decide (0 < F A B) = false := by simpa using hf
          go_wp2_with fail
          go_roundw
          case rel => exact ⟨k + 1, A, c, by omega, by omega, by omega, by rw [← hw2]; go_num, rfl, HO4, Lib.hid (cuts_more hAt hC.out), HX4⟩
          case measure => simp [intV]; omega
      · have hgt : decide ((B : Int) > (n1 : Int) - 1) = true := by simp; omega
        have hgt2 : decide ((n1 : Int) - 1 < (B : Int)) = true := by simp; omega
        have HC5 := Lib.hid (show (lgI c).length ≤ 5000 by rw [← HCL.out]; omega)
        go_wp2_with fail
        go_ret
        exact ⟨_, c, rfl, HO3.out.reads HC5.out, cuts_more (by omega) hC.out, E0.out.trans HX3.out⟩
    · have hlt1 : ¬ ((2 * k + 1 : Nat) : Int) < (m8 : Int) := by omega
      have HC5 := Lib.hid (show (lgI c).length ≤ 5000 by rw [← HCL.out]; omega)
      go_wp2_with fail
      go_ret
      exact ⟨_, rfl, c, hO.out.reads HC5.out, cuts_more (by omega) hC.out, E0.out.trans hX.out⟩
end Go.Proofs.Ytcgheakadfjofaa
