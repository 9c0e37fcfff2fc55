/- MarkFree, by its contract. -/
import Derived.Test.YtlgdnbpboonhdaaE8
namespace Go.Proofs.Ytlgdnbpboonhdaa
open Go.RowKit Go.Shelf Go.Maps
set_option linter.unusedVariables false
set_option linter.unusedSimpArgs false
attribute [local go_sem] Oper.semAt_some
theorem of_and6 {A B C D E F : Prop} (h : A ∧ B ∧ C ∧ D ∧ E ∧ Hid F) : F := h.2.2.2.2.2.out
set_option maxRecDepth 100000 in
set_option maxHeartbeats 8000000 in
theorem free10_ok (S L : Nat) (a : Option Addr) (cap : Nat) (ms : List Nat) (x z : Nat) (hx : x ≤ 65535) (hz : z ≤ 65535) (w : World) (hv : Valid S L ms) (hR : Reads w (.slice a (ints ms).length cap) (ints ms))
    (hf : ∀ W, Ext w W → Calls Try.prog 41 #[.agg #[.int .i64 (S : Int), .int .i64 (L : Int), .slice a (ints ms).length cap]] W fun e w' => e = .returned (.bool true) ∧ Ext W w')
    (h8 : S ≤ 8) (h11 : ms.length ≤ 11) :
    Calls Try.prog 10 #[.agg #[.int .i64 (S : Int), .int .i64 (L : Int), .slice a (ints ms).length cap], .int .u16 (x : Int), .int .u16 (z : Int)] w fun e w' => e = .returned (.bool true) ∧ Ext w w' := by
  have E0 := Lib.hid ((Ext.refl w).alloc (.cells #[.int .i64 (S : Int), .int .i64 (L : Int), .slice a (ints ms).length cap] 24))
  have P0 := Lib.hid (OffAt.new w (.int .i64 (S : Int)) (.int .i64 (L : Int)) (.slice a (ints ms).length cap) 24)
  rw [ints_length] at hR hf E0 P0 ⊢
  have hfs := full_lt S hv.2.1
  have hf1 : 1 ≤ full S := by
    have h1 := hv.1
    have : 2 ^ 1 ≤ 2 ^ S := Nat.pow_le_pow_right (by omega) h1
    unfold full; omega
  obtain ⟨fS, hfS⟩ : ∃ fS, fS = full S := ⟨_, rfl⟩
  obtain ⟨r, hr⟩ : ∃ r, r = x % fS := ⟨_, rfl⟩
  have hrl : r < fS := by rw [hr]; exact Nat.mod_lt _ (by omega)
  have e7 : (x : Int) % (fS : Int) = (r : Int) := by rw [hr]; simp
  obtain ⟨m, hm⟩ : ∃ m, m = 1 + r := ⟨_, rfl⟩
  have e8 : (1 : Int) + (r : Int) = (m : Int) := by omega
  have hm1 : 1 ≤ m := by omega
  have hmf : m ≤ full S := by omega
  obtain ⟨A, hA⟩ : ∃ A : Bool, clash1 ms L = none ↔ A = true := by
    cases h : clash1 ms L with
    | none => exact ⟨true, by simp⟩
    | some p => exact ⟨false, by simp⟩
  have hAm : ∀ q, 1 ≤ q → q ≤ full S → (clash1 (ms ++ [q]) L = none ↔ (A && freeTo L ms q ms.length) = true) := by
    intro q h1 h2
    rw [clash_snoc hv h1 h2 h11, hA, Bool.and_eq_true]
  have HF := Lib.hid (hf _ E0.out)
  have H35 := Lib.hid (fun W (h : Ext w W) => free35_ok S L ms _ W hv (hR.ext h))
  have H26 := Lib.hid (fun W (h : Ext w W) => apart_b S L ms A _ W hv (hR.ext h) hA)
  have h43 := fun v W => all43_any S L v W hv.1 hv.2.1
  rw [← hfS] at h43
  have H43 := Lib.hid h43
  have H44 := Lib.hid (fun (q : Nat) W (h : Ext w W) => with44_n S L q ms _ W (hR.ext h) (by omega))
  have H26q := Lib.hid (fun (q : Nat) (h1 : 1 ≤ q) (h2 : q ≤ full S) (u : Value) W (h : Reads W u (ints (ms ++ [q]))) => apart_b S L (ms ++ [q]) _ u W (valid_snoc hv h1 h2 h11) h (hAm q h1 h2))
  have HALL := Lib.hid (hasB_all hv m hm1 hmf)
  have HMEM := Lib.hid (fun q => (mem_freeL hv q).1)
  have HLT := Lib.hid (fun j p q => @freeL_lt S L ms j p q)
  have hlen := freeL_len S L ms
  have HML := Lib.hid (And.intro hm1 hmf)
  generalize freeL S L ms = fl at *
  obtain ⟨ln, hln⟩ : ∃ ln, ln = fl.length := ⟨_, rfl⟩
  have HLN := Lib.hid hln
  rw [← hln] at HALL hlen
  generalize hFm : freeTo L ms m ms.length = F at *
  have HFM := Lib.hid hFm
  obtain ⟨n, hn⟩ : ∃ n, n = ms.length := ⟨_, rfl⟩
  have HN := Lib.hid hn
  rw [← hn] at HF H35 H26 H44 E0 P0 ⊢
  have hn12 : decide ((12 : Int) ≤ (n : Int)) = false := by simp; omega
  have hn12' : n < 12 := by omega
  have h8' : decide ((8 : Int) < (S : Int)) = false := by simp; omega
  have hfz : ¬ (fS : Int) = 0 := by omega
  have hfb : (fS : Int) ≤ 1023 := by omega
  have hrb : (r : Int) ≤ 1023 := by omega
  have HFS := Lib.hid hfS
  have hfl : ln ≤ 1023 := by omega
  clear hln hf hR hv hn hr hm hA hAm h43 hm1 hmf hfS hfs hlen hf1 hFm h11
  go_enter Try.func10, Try.ntmps10
  have HX0 := Lib.hid (Ext.refl (w.alloc (.cells #[.int .i64 (S : Int), .int .i64 (L : Int), .slice a n cap] 24)))
  go_wp2_with fail
  refine HF.out.mono ?_
  rintro e w1 ⟨rfl, hb⟩
  obtain ⟨g1, g2, g3⟩ := P0.out.ext hb
  have HX := Lib.hid (HX0.out.trans hb); clear hb
  go_wp2_with fail
  refine (H35.out _ (E0.out.trans HX.out)).mono ?_
  rintro e w2 ⟨u, rfl, hu, hb⟩
  obtain ⟨g1, g2, g3⟩ := OffAt.ext ⟨g1, g2, g3⟩ hb
  replace HX := Lib.hid (HX.out.trans hb); clear hb
  obtain ⟨hzz, a1, cap1, rfl⟩ := hu.shape
  rw [ints_length, ← HLN.out] at hu hzz ⊢
  have HU := Lib.hid hu; clear hu
  go_wp2_with fail
  refine (H26.out _ (E0.out.trans HX.out)).mono ?_
  rintro e w3 ⟨y1, y2, rfl, hb⟩
  obtain ⟨g1, g2, g3⟩ := OffAt.ext ⟨g1, g2, g3⟩ hb
  replace HX := Lib.hid (HX.out.trans hb)
  replace HU := Lib.hid (HU.out.ext hb); clear hb
  go_wp2_with fail
  refine (H43.out _ _).mono ?_
  rintro e w4 ⟨rfl, hb⟩
  obtain ⟨g1, g2, g3⟩ := OffAt.ext ⟨g1, g2, g3⟩ hb
  replace HX := Lib.hid (HX.out.trans hb)
  replace HU := Lib.hid (HU.out.ext hb); clear hb
  go_wp2_with fail
  clear e7 e8
  go_loopw [13, 14] (fun f k wr => ∃ (j : Nat) (f0 : Bool), j ≤ ln ∧ k = .int .i64 (j : Int) ∧ f = .bool f0 ∧ Hid (Ext w4 wr) ∧ Hid (f0 = hasB fl m j)) (fun f k wr => ln - (RowKit.intOf k).toNat)
  case atStart => exact ⟨0, false, Nat.zero_le _, rfl, rfl, Ext.refl _, ((hasB_zero fl m).symm : false = hasB fl m 0)⟩
  case round =>
    obtain ⟨j, f0, hj, rfl, rfl, hE, hF0⟩ := hrel
    obtain ⟨g1, g2, g3⟩ := P0.out.ext (HX.out.trans hE.out)
    by_cases hlt : j < ln
    · obtain ⟨q, hq⟩ := get_some (show j < fl.length by rw [← HLN.out]; exact hlt)
      obtain ⟨b2, off2, hbo, -, c0⟩ := (HU.out.ext hE.out).atN hq
      subst hbo
      obtain ⟨⟨hq1, hq2⟩, -⟩ := HMEM.out q (List.mem_of_getElem? hq)
      have hsucc := hasB_succ fl m j q hq
      rw [← hF0.out] at hsucc
      rw [← HFS.out] at hq2
      have hd1 : decide ((q : Int) < 1) = false := by simp; omega
      have hd2 : decide ((fS : Int) < (q : Int)) = false := by simp; omega
      have hd2n : ¬ fS < q := by omega
      have hd1n : ¬ q < 1 := by omega
      by_cases hj0 : j = 0
      · subst hj0
        have hlt' : (0 : Int) < (ln : Int) := by omega
        simp only [Nat.add_zero] at c0
        rw [show ((0 : Nat) : Int) = (0 : Int) from rfl]
        clear hq hF0
        go_wp2
        have KP : ∀ X X' : World, (X.cell? ⟨w.heap.size, 0, none⟩ = some (.int .i64 (S : Int)) ∧ X.cell? ⟨w.heap.size, 1, none⟩ = some (.int .i64 (L : Int)) ∧ X.cell? ⟨w.heap.size, 2, none⟩ = some (.slice a n cap) ∧ X.cell? ⟨b2, off2, none⟩ = some (.int .i64 (q : Int)) ∧ Hid (Ext wr X)) → Ext X X' → (X'.cell? ⟨w.heap.size, 0, none⟩ = some (.int .i64 (S : Int)) ∧ X'.cell? ⟨w.heap.size, 1, none⟩ = some (.int .i64 (L : Int)) ∧ X'.cell? ⟨w.heap.size, 2, none⟩ = some (.slice a n cap) ∧ X'.cell? ⟨b2, off2, none⟩ = some (.int .i64 (q : Int)) ∧ Hid (Ext wr X')) :=
          fun X X' h hb => ⟨cell_ext hb h.1, cell_ext hb h.2.1, cell_ext hb h.2.2.1, cell_ext hb h.2.2.2.1, Ext.trans h.2.2.2.2.out hb⟩
        have HKP := Lib.hid KP; clear KP
        refine wp_region_noPanic ?_
        refine wp_region_held_drew (S := (fun X => X.cell? ⟨w.heap.size, 0, none⟩ = some (.int .i64 (S : Int)) ∧ X.cell? ⟨w.heap.size, 1, none⟩ = some (.int .i64 (L : Int)) ∧ X.cell? ⟨w.heap.size, 2, none⟩ = some (.slice a n cap) ∧ X.cell? ⟨b2, off2, none⟩ = some (.int .i64 (q : Int)) ∧ Hid (Ext wr X))) (by kernel_rfl) (by first | assumption | exact ⟨g1, g2, g3, c0, Ext.drew (Ext.refl _)⟩) (fun hHeld => ?_)
        refine' wpAnyH_take (i := 0) (oi := { dst := some 58, op := Go.Op.move (Go.Operand.tmp 7), type := 22, pos := "outright.go:102", after := #[], guard := none }) (v := ?va0) rfl (by kernel_rfl) (by kernel_rfl) (by kernel_rfl) (fun _ _ _ h => h) (Or.inl ⟨by rfl, ?hya0⟩) (by assumption) ?resta0
        case hya0 =>
          intro W hSw
          try dsimp only at hSw
          go_simp
          all_goals with_reducible rfl
        try simp only [Act.put, List.setIfInBounds_toArray, List.set_cons_zero, List.set_cons_succ]
        refine' wpAnyH_take (i := 1) (oi := { dst := some 59, op := Go.Op.move (Go.Operand.tmp 14), type := 3, pos := "outright.go:102", after := #[], guard := none }) (v := ?va1) rfl (by kernel_rfl) (by kernel_rfl) (by kernel_rfl) (fun _ _ _ h => h) (Or.inl ⟨by rfl, ?hya1⟩) (by assumption) ?resta1
        case hya1 =>
          intro W hSw
          try dsimp only at hSw
          go_simp
          all_goals with_reducible rfl
        try simp only [Act.put, List.setIfInBounds_toArray, List.set_cons_zero, List.set_cons_succ]
        refine' wpAnyH_take (i := 2) (oi := { dst := some 60, op := Go.Op.indexAddr 22 (Go.Operand.tmp 58) (Go.Operand.tmp 59), type := 0, pos := "outright.go:102", after := #[{ on := 0, ground := Go.Ground.data }, { on := 1, ground := Go.Ground.data }], guard := none }) (v := ?va2) rfl (by kernel_rfl) (by kernel_rfl) (by kernel_rfl) (fun _ _ _ h => h) (Or.inl ⟨by rfl, ?hya2⟩) (by assumption) ?resta2
        case hya2 =>
          intro W hSw
          try dsimp only at hSw
          go_simp
          all_goals with_reducible rfl
        try simp only [Act.put, List.setIfInBounds_toArray, List.set_cons_zero, List.set_cons_succ]
        refine' wpAnyH_take (i := 3) (oi := { dst := some 61, op := Go.Op.load 3 (Go.Operand.tmp 60), type := 3, pos := "outright.go:102", after := #[{ on := 2, ground := Go.Ground.data }], guard := none }) (v := ?va3) rfl (by kernel_rfl) (by kernel_rfl) (by kernel_rfl) (fun _ _ _ h => h) (Or.inl ⟨by rfl, ?hya3⟩) (by assumption) ?resta3
        case hya3 =>
          intro W hSw
          try dsimp only at hSw
          go_simp
          all_goals with_reducible rfl
        try simp only [Act.put, List.setIfInBounds_toArray, List.set_cons_zero, List.set_cons_succ]
        refine' wpAnyH_take (i := 4) (oi := { dst := some 62, op := Go.Op.binOp Go.BinOp.lss 3 (Go.Operand.tmp 61) (Go.Operand.const (Go.Value.int Go.IntKind.i64 1)) 3, type := 4, pos := "outright.go:102", after := #[{ on := 3, ground := Go.Ground.data }], guard := none }) (v := ?va4) rfl (by kernel_rfl) (by kernel_rfl) (by kernel_rfl) (fun _ _ _ h => h) (Or.inl ⟨by rfl, ?hya4⟩) (by assumption) ?resta4
        case hya4 =>
          intro W hSw
          try dsimp only at hSw
          go_simp
          all_goals with_reducible rfl
        try simp only [Act.put, List.setIfInBounds_toArray, List.set_cons_zero, List.set_cons_succ]
        refine' wpAnyH_take (i := 5) (oi := { dst := some 63, op := Go.Op.move (Go.Operand.tmp 62), type := 4, pos := "outright.go:102", after := #[{ on := 4, ground := Go.Ground.data }], guard := none }) (v := ?va5) rfl (by kernel_rfl) (by kernel_rfl) (by kernel_rfl) (fun _ _ _ h => h) (Or.inl ⟨by rfl, ?hya5⟩) (by assumption) ?resta5
        case hya5 =>
          intro W hSw
          try dsimp only at hSw
          go_simp
          all_goals with_reducible rfl
        try simp only [Act.put, List.setIfInBounds_toArray, List.set_cons_zero, List.set_cons_succ]
        refine' wpAnyH_take (i := 6) (oi := { dst := some 64, op := Go.Op.move (Go.Operand.tmp 7), type := 22, pos := "outright.go:102", after := #[{ on := 5, ground := Go.Ground.guard }], guard := some (5, false) }) (v := ?va6) rfl (by kernel_rfl) (by kernel_rfl) (by kernel_rfl) (fun _ _ _ h => h) (Or.inl ⟨by rfl, ?hya6⟩) (by assumption) ?resta6
        case hya6 =>
          intro W hSw
          try dsimp only at hSw
          go_simp
          all_goals with_reducible rfl
        try simp only [Act.put, List.setIfInBounds_toArray, List.set_cons_zero, List.set_cons_succ]
        refine' wpAnyH_take (i := 7) (oi := { dst := some 65, op := Go.Op.move (Go.Operand.tmp 14), type := 3, pos := "outright.go:102", after := #[{ on := 5, ground := Go.Ground.guard }], guard := some (5, false) }) (v := ?va7) rfl (by kernel_rfl) (by kernel_rfl) (by kernel_rfl) (fun _ _ _ h => h) (Or.inl ⟨by rfl, ?hya7⟩) (by assumption) ?resta7
        case hya7 =>
          intro W hSw
          try dsimp only at hSw
          go_simp
          all_goals with_reducible rfl
        try simp only [Act.put, List.setIfInBounds_toArray, List.set_cons_zero, List.set_cons_succ]
        refine' wpAnyH_take (i := 8) (oi := { dst := some 66, op := Go.Op.indexAddr 22 (Go.Operand.tmp 64) (Go.Operand.tmp 65), type := 0, pos := "outright.go:102", after := #[{ on := 6, ground := Go.Ground.data }, { on := 7, ground := Go.Ground.data }, { on := 5, ground := Go.Ground.guard }], guard := some (5, false) }) (v := ?va8) rfl (by kernel_rfl) (by kernel_rfl) (by kernel_rfl) (fun _ _ _ h => h) (Or.inl ⟨by rfl, ?hya8⟩) (by assumption) ?resta8
        case hya8 =>
          intro W hSw
          try dsimp only at hSw
          go_simp
          all_goals with_reducible rfl
        try simp only [Act.put, List.setIfInBounds_toArray, List.set_cons_zero, List.set_cons_succ]
        refine' wpAnyH_take (i := 9) (oi := { dst := some 67, op := Go.Op.load 3 (Go.Operand.tmp 66), type := 3, pos := "outright.go:102", after := #[{ on := 8, ground := Go.Ground.data }, { on := 5, ground := Go.Ground.guard }], guard := some (5, false) }) (v := ?va9) rfl (by kernel_rfl) (by kernel_rfl) (by kernel_rfl) (fun _ _ _ h => h) (Or.inl ⟨by rfl, ?hya9⟩) (by assumption) ?resta9
        case hya9 =>
          intro W hSw
          try dsimp only at hSw
          go_simp
          all_goals with_reducible rfl
        try simp only [Act.put, List.setIfInBounds_toArray, List.set_cons_zero, List.set_cons_succ]
        refine' wpAnyH_take (i := 10) (oi := { dst := some 68, op := Go.Op.load 24 (Go.Operand.tmp 3), type := 24, pos := "outright.go:102", after := #[{ on := 5, ground := Go.Ground.guard }], guard := some (5, false) }) (v := ?va10) rfl (by kernel_rfl) (by kernel_rfl) (by kernel_rfl) (fun _ _ _ h => h) (Or.inl ⟨by rfl, ?hya10⟩) (by assumption) ?resta10
        case hya10 =>
          intro W hSw
          try dsimp only at hSw
          go_simp
          all_goals with_reducible rfl
        try simp only [Act.put, List.setIfInBounds_toArray, List.set_cons_zero, List.set_cons_succ]
        refine wpAnyH_ready (rs := [11]) (by kernel_rfl) (by simp) ?_
        refine AllReadyH.cons (o := { dst := some 69, op := Go.Op.call { callee := Go.Callee.value (Go.Operand.func 43), args := #[Go.Operand.tmp 68], argTypes := #[24] }, type := 3, pos := "outright.go:102", after := #[{ on := 10, ground := Go.Ground.data }, { on := 5, ground := Go.Ground.chain }, { on := 5, ground := Go.Ground.guard }], guard := some (5, false) }) rfl (fun K hK => ?_) AllReadyH.nil
        go_simp
        (go_at_call 43; refine (H43.out _ _).mono ?_; rintro e w' ⟨rfl, hb⟩)
        all_goals (try (go_wp2_with fail))
        refine hK.out _ _ (by exact HKP.out _ _ (by assumption) hb) (fun hHeld2 => ?_)
        clear hK K
        try simp only [Act.put, List.setIfInBounds_toArray, List.set_cons_zero, List.set_cons_succ]
        refine' wpAnyH_take (i := 12) (oi := { dst := some 70, op := Go.Op.binOp Go.BinOp.gtr 3 (Go.Operand.tmp 67) (Go.Operand.tmp 69) 3, type := 4, pos := "outright.go:102", after := #[{ on := 9, ground := Go.Ground.data }, { on := 11, ground := Go.Ground.data }, { on := 5, ground := Go.Ground.guard }], guard := some (5, false) }) (v := ?va12) rfl (by kernel_rfl) (by kernel_rfl) (by kernel_rfl) (fun _ _ _ h => h) (Or.inl ⟨by rfl, ?hya12⟩) (by assumption) ?resta12
        case hya12 =>
          intro W hSw
          try dsimp only at hSw
          go_simp
          all_goals with_reducible rfl
        try simp only [Act.put, List.setIfInBounds_toArray, List.set_cons_zero, List.set_cons_succ]
        refine' wpAnyH_take (i := 13) (oi := { dst := some 71, op := Go.Op.pick (Go.Operand.tmp 63) (Go.Operand.const (Go.Value.bool true)) (Go.Operand.tmp 70), type := 4, pos := "outright.go:102", after := #[{ on := 5, ground := Go.Ground.data }, { on := 12, ground := Go.Ground.data }], guard := none }) (v := ?va13) rfl (by kernel_rfl) (by kernel_rfl) (by kernel_rfl) (fun _ _ _ h => h) (Or.inl ⟨by rfl, ?hya13⟩) (by assumption) ?resta13
        case hya13 =>
          intro W hSw
          try dsimp only at hSw
          go_simp
          all_goals with_reducible rfl
        try simp only [Act.put, List.setIfInBounds_toArray, List.set_cons_zero, List.set_cons_succ]
        refine' wpAnyH_take (i := 14) (oi := { dst := some 72, op := Go.Op.move (Go.Operand.tmp 71), type := 4, pos := "outright.go:102", after := #[{ on := 13, ground := Go.Ground.data }, { on := 11, ground := Go.Ground.chain }], guard := none }) (v := ?va14) rfl (by kernel_rfl) (by kernel_rfl) (by kernel_rfl) (fun _ _ _ h => h) (Or.inl ⟨by rfl, ?hya14⟩) (by assumption) ?resta14
        case hya14 =>
          intro W hSw
          try dsimp only at hSw
          go_simp
          all_goals with_reducible rfl
        try simp only [Act.put, List.setIfInBounds_toArray, List.set_cons_zero, List.set_cons_succ]
        refine' wpAnyH_take (i := 15) (oi := { dst := some 73, op := Go.Op.move (Go.Operand.tmp 14), type := 3, pos := "outright.go:102", after := #[{ on := 14, ground := Go.Ground.guard }], guard := some (14, false) }) (v := ?va15) rfl (by kernel_rfl) (by kernel_rfl) (by kernel_rfl) (fun _ _ _ h => h) (Or.inl ⟨by rfl, ?hya15⟩) (by assumption) ?resta15
        case hya15 =>
          intro W hSw
          try dsimp only at hSw
          go_simp
          all_goals with_reducible rfl
        try simp only [Act.put, List.setIfInBounds_toArray, List.set_cons_zero, List.set_cons_succ]
        refine' wpAnyH_take (i := 16) (oi := { dst := some 74, op := Go.Op.binOp Go.BinOp.gtr 3 (Go.Operand.tmp 73) (Go.Operand.const (Go.Value.int Go.IntKind.i64 0)) 3, type := 4, pos := "outright.go:102", after := #[{ on := 15, ground := Go.Ground.data }, { on := 14, ground := Go.Ground.guard }], guard := some (14, false) }) (v := ?va16) rfl (by kernel_rfl) (by kernel_rfl) (by kernel_rfl) (fun _ _ _ h => h) (Or.inl ⟨by rfl, ?hya16⟩) (by assumption) ?resta16
        case hya16 =>
          intro W hSw
          try dsimp only at hSw
          go_simp
          all_goals with_reducible rfl
        try simp only [Act.put, List.setIfInBounds_toArray, List.set_cons_zero, List.set_cons_succ]
        refine' wpAnyH_take (i := 17) (oi := { dst := some 75, op := Go.Op.move (Go.Operand.tmp 74), type := 4, pos := "outright.go:102", after := #[{ on := 16, ground := Go.Ground.data }, { on := 14, ground := Go.Ground.chain }, { on := 14, ground := Go.Ground.guard }], guard := some (14, false) }) (v := ?va17) rfl (by kernel_rfl) (by kernel_rfl) (by kernel_rfl) (fun _ _ _ h => h) (Or.inl ⟨by rfl, ?hya17⟩) (by assumption) ?resta17
        case hya17 =>
          intro W hSw
          try dsimp only at hSw
          go_simp
          all_goals with_reducible rfl
        try simp only [Act.put, List.setIfInBounds_toArray, List.set_cons_zero, List.set_cons_succ]
        refine wpAnyH_take (i := 18) (oi := { dst := some 76, op := Go.Op.move (Go.Operand.tmp 7), type := 22, pos := "outright.go:102", after := #[{ on := 17, ground := Go.Ground.guard }], guard := some (17, true) }) (v := undef) rfl (by kernel_rfl) (by kernel_rfl) (by kernel_rfl) (fun _ _ _ h => h) (Or.inr ⟨by rfl, rfl⟩) (by assumption) ?_
        try simp only [Act.put, List.setIfInBounds_toArray, List.set_cons_zero, List.set_cons_succ]
        refine wpAnyH_take (i := 19) (oi := { dst := some 77, op := Go.Op.move (Go.Operand.tmp 14), type := 3, pos := "outright.go:102", after := #[{ on := 17, ground := Go.Ground.guard }], guard := some (17, true) }) (v := undef) rfl (by kernel_rfl) (by kernel_rfl) (by kernel_rfl) (fun _ _ _ h => h) (Or.inr ⟨by rfl, rfl⟩) (by assumption) ?_
        try simp only [Act.put, List.setIfInBounds_toArray, List.set_cons_zero, List.set_cons_succ]
        refine wpAnyH_take (i := 20) (oi := { dst := some 78, op := Go.Op.indexAddr 22 (Go.Operand.tmp 76) (Go.Operand.tmp 77), type := 0, pos := "outright.go:102", after := #[{ on := 18, ground := Go.Ground.data }, { on := 19, ground := Go.Ground.data }, { on := 17, ground := Go.Ground.guard }], guard := some (17, true) }) (v := undef) rfl (by kernel_rfl) (by kernel_rfl) (by kernel_rfl) (fun _ _ _ h => h) (Or.inr ⟨by rfl, rfl⟩) (by assumption) ?_
        try simp only [Act.put, List.setIfInBounds_toArray, List.set_cons_zero, List.set_cons_succ]
        refine wpAnyH_take (i := 21) (oi := { dst := some 79, op := Go.Op.load 3 (Go.Operand.tmp 78), type := 3, pos := "outright.go:102", after := #[{ on := 20, ground := Go.Ground.data }, { on := 17, ground := Go.Ground.guard }], guard := some (17, true) }) (v := undef) rfl (by kernel_rfl) (by kernel_rfl) (by kernel_rfl) (fun _ _ _ h => h) (Or.inr ⟨by rfl, rfl⟩) (by assumption) ?_
        try simp only [Act.put, List.setIfInBounds_toArray, List.set_cons_zero, List.set_cons_succ]
        refine wpAnyH_take (i := 22) (oi := { dst := some 80, op := Go.Op.move (Go.Operand.tmp 7), type := 22, pos := "outright.go:102", after := #[{ on := 17, ground := Go.Ground.guard }], guard := some (17, true) }) (v := undef) rfl (by kernel_rfl) (by kernel_rfl) (by kernel_rfl) (fun _ _ _ h => h) (Or.inr ⟨by rfl, rfl⟩) (by assumption) ?_
        try simp only [Act.put, List.setIfInBounds_toArray, List.set_cons_zero, List.set_cons_succ]
        refine wpAnyH_take (i := 23) (oi := { dst := some 81, op := Go.Op.move (Go.Operand.tmp 14), type := 3, pos := "outright.go:102", after := #[{ on := 17, ground := Go.Ground.guard }], guard := some (17, true) }) (v := undef) rfl (by kernel_rfl) (by kernel_rfl) (by kernel_rfl) (fun _ _ _ h => h) (Or.inr ⟨by rfl, rfl⟩) (by assumption) ?_
        try simp only [Act.put, List.setIfInBounds_toArray, List.set_cons_zero, List.set_cons_succ]
        refine wpAnyH_take (i := 24) (oi := { dst := some 82, op := Go.Op.binOp Go.BinOp.sub 3 (Go.Operand.tmp 81) (Go.Operand.const (Go.Value.int Go.IntKind.i64 1)) 3, type := 3, pos := "outright.go:102", after := #[{ on := 23, ground := Go.Ground.data }, { on := 17, ground := Go.Ground.guard }], guard := some (17, true) }) (v := undef) rfl (by kernel_rfl) (by kernel_rfl) (by kernel_rfl) (fun _ _ _ h => h) (Or.inr ⟨by rfl, rfl⟩) (by assumption) ?_
        try simp only [Act.put, List.setIfInBounds_toArray, List.set_cons_zero, List.set_cons_succ]
        refine wpAnyH_take (i := 25) (oi := { dst := some 83, op := Go.Op.indexAddr 22 (Go.Operand.tmp 80) (Go.Operand.tmp 82), type := 0, pos := "outright.go:102", after := #[{ on := 22, ground := Go.Ground.data }, { on := 24, ground := Go.Ground.data }, { on := 17, ground := Go.Ground.guard }], guard := some (17, true) }) (v := undef) rfl (by kernel_rfl) (by kernel_rfl) (by kernel_rfl) (fun _ _ _ h => h) (Or.inr ⟨by rfl, rfl⟩) (by assumption) ?_
        try simp only [Act.put, List.setIfInBounds_toArray, List.set_cons_zero, List.set_cons_succ]
        refine wpAnyH_take (i := 26) (oi := { dst := some 84, op := Go.Op.load 3 (Go.Operand.tmp 83), type := 3, pos := "outright.go:102", after := #[{ on := 25, ground := Go.Ground.data }, { on := 17, ground := Go.Ground.guard }], guard := some (17, true) }) (v := undef) rfl (by kernel_rfl) (by kernel_rfl) (by kernel_rfl) (fun _ _ _ h => h) (Or.inr ⟨by rfl, rfl⟩) (by assumption) ?_
        try simp only [Act.put, List.setIfInBounds_toArray, List.set_cons_zero, List.set_cons_succ]
        refine wpAnyH_take (i := 27) (oi := { dst := some 85, op := Go.Op.binOp Go.BinOp.leq 3 (Go.Operand.tmp 79) (Go.Operand.tmp 84) 3, type := 4, pos := "outright.go:102", after := #[{ on := 21, ground := Go.Ground.data }, { on := 26, ground := Go.Ground.data }, { on := 17, ground := Go.Ground.guard }], guard := some (17, true) }) (v := undef) rfl (by kernel_rfl) (by kernel_rfl) (by kernel_rfl) (fun _ _ _ h => h) (Or.inr ⟨by rfl, rfl⟩) (by assumption) ?_
        try simp only [Act.put, List.setIfInBounds_toArray, List.set_cons_zero, List.set_cons_succ]
        refine' wpAnyH_take (i := 28) (oi := { dst := some 86, op := Go.Op.pick (Go.Operand.tmp 75) (Go.Operand.tmp 85) (Go.Operand.const (Go.Value.bool false)), type := 4, pos := "outright.go:102", after := #[{ on := 17, ground := Go.Ground.data }, { on := 27, ground := Go.Ground.data }, { on := 14, ground := Go.Ground.guard }], guard := some (14, false) }) (v := ?va28) rfl (by kernel_rfl) (by kernel_rfl) (by kernel_rfl) (fun _ _ _ h => h) (Or.inl ⟨by rfl, ?hya28⟩) (by assumption) ?resta28
        case hya28 =>
          intro W hSw
          try dsimp only at hSw
          go_simp
          all_goals with_reducible rfl
        try simp only [Act.put, List.setIfInBounds_toArray, List.set_cons_zero, List.set_cons_succ]
        refine' wpAnyH_take (i := 29) (oi := { dst := some 87, op := Go.Op.pick (Go.Operand.tmp 72) (Go.Operand.const (Go.Value.bool true)) (Go.Operand.tmp 86), type := 4, pos := "outright.go:102", after := #[{ on := 14, ground := Go.Ground.data }, { on := 28, ground := Go.Ground.data }], guard := none }) (v := ?va29) rfl (by kernel_rfl) (by kernel_rfl) (by kernel_rfl) (fun _ _ _ h => h) (Or.inl ⟨by rfl, ?hya29⟩) (by assumption) ?resta29
        case hya29 =>
          intro W hSw
          try dsimp only at hSw
          go_simp
          all_goals with_reducible rfl
        try simp only [Act.put, List.setIfInBounds_toArray, List.set_cons_zero, List.set_cons_succ]
        refine wpAnyH_done (by kernel_rfl) ?_ _
        refine NoPanic.normal ?_
        all_goals
          have hk := hHeld2
          obtain ⟨q1, q2, q3, q4, r9⟩ := hk
          have HY := Lib.hid (hE.out.trans r9.out)
          clear r9 g1 g2 g3 c0
          cases f0
          · rw [Bool.false_or] at hsucc
            by_cases hqm : q = m
            · have hd3 : ((q : Int) == (m : Int)) = true := by simp [hqm]
              have HS := Lib.hid (show true = hasB fl m (0 + 1) from by rw [hsucc]; simp [hqm])
              clear hsucc hqm
              go_wp2
              go_roundw
              case rel => exact ⟨(0 + 1), true, by omega, by go_num, rfl, HY.out, HS.out⟩
              case measure => simp [RowKit.intOf]; omega
            · have hd3 : ((q : Int) == (m : Int)) = false := by simp; omega
              have HS := Lib.hid (show false = hasB fl m (0 + 1) from by rw [hsucc]; simp [hqm])
              clear hsucc hqm
              go_wp2
              go_roundw
              case rel => exact ⟨(0 + 1), false, by omega, by go_num, rfl, HY.out, HS.out⟩
              case measure => simp [RowKit.intOf]; omega
          · rw [Bool.true_or] at hsucc
            have HS := Lib.hid (show true = hasB fl m (0 + 1) from hsucc.symm)
            clear hsucc
            go_wp2
            go_roundw
            case rel => exact ⟨(0 + 1), true, by omega, by go_num, rfl, HY.out, HS.out⟩
            case measure => simp [RowKit.intOf]; omega
      · obtain ⟨j', rfl⟩ : ∃ j', j = j' + 1 := ⟨j - 1, by omega⟩
        obtain ⟨p, hp⟩ := get_some (show j' < fl.length by rw [← HLN.out]; omega)
        obtain ⟨b3, off3, hbo, -, c1⟩ := (HU.out.ext hE.out).atN hp
        cases hbo
        have hpq := HLT.out j' p q hp hq
        have hd4 : decide ((q : Int) ≤ (p : Int)) = false := by simp; omega
        have hja : (0 : Int) ≤ (j' : Int) := by omega
        have hjb : (j' : Int) < (ln : Int) := by omega
        have hjn : j' < ln := by omega
        have hjc : (j' : Int) + 1 < (ln : Int) := by omega
        have hjd : (0 : Int) ≤ (j' : Int) + 1 := by omega
        have hje : decide ((0 : Int) < (j' : Int) + 1) = true := decide_eq_true (by omega)
        have hjw : IntKind.i64.wrap (j' : Int) = (j' : Int) := wrapi64 _ (by omega)
        clear hq hF0 hp hj0
        go_wp2
        have KP : ∀ X X' : World, (X.cell? ⟨w.heap.size, 0, none⟩ = some (.int .i64 (S : Int)) ∧ X.cell? ⟨w.heap.size, 1, none⟩ = some (.int .i64 (L : Int)) ∧ X.cell? ⟨w.heap.size, 2, none⟩ = some (.slice a n cap) ∧ X.cell? ⟨b2, off2 + (j' + 1), none⟩ = some (.int .i64 (q : Int)) ∧ X.cell? ⟨b2, off2 + j', none⟩ = some (.int .i64 (p : Int)) ∧ Hid (Ext wr X)) → Ext X X' → (X'.cell? ⟨w.heap.size, 0, none⟩ = some (.int .i64 (S : Int)) ∧ X'.cell? ⟨w.heap.size, 1, none⟩ = some (.int .i64 (L : Int)) ∧ X'.cell? ⟨w.heap.size, 2, none⟩ = some (.slice a n cap) ∧ X'.cell? ⟨b2, off2 + (j' + 1), none⟩ = some (.int .i64 (q : Int)) ∧ X'.cell? ⟨b2, off2 + j', none⟩ = some (.int .i64 (p : Int)) ∧ Hid (Ext wr X')) :=
          fun X X' h hb => ⟨cell_ext hb h.1, cell_ext hb h.2.1, cell_ext hb h.2.2.1, cell_ext hb h.2.2.2.1, cell_ext hb h.2.2.2.2.1, Ext.trans h.2.2.2.2.2.out hb⟩
        have HKP := Lib.hid KP; clear KP
        refine wp_region_noPanic ?_
        refine wp_region_held_drew (S := (fun X => X.cell? ⟨w.heap.size, 0, none⟩ = some (.int .i64 (S : Int)) ∧ X.cell? ⟨w.heap.size, 1, none⟩ = some (.int .i64 (L : Int)) ∧ X.cell? ⟨w.heap.size, 2, none⟩ = some (.slice a n cap) ∧ X.cell? ⟨b2, off2 + (j' + 1), none⟩ = some (.int .i64 (q : Int)) ∧ X.cell? ⟨b2, off2 + j', none⟩ = some (.int .i64 (p : Int)) ∧ Hid (Ext wr X))) (by kernel_rfl) (by first | assumption | exact ⟨g1, g2, g3, c0, c1, Ext.drew (Ext.refl _)⟩) (fun hHeld => ?_)
        refine' wpAnyH_take (i := 0) (oi := { dst := some 58, op := Go.Op.move (Go.Operand.tmp 7), type := 22, pos := "outright.go:102", after := #[], guard := none }) (v := ?vb0) rfl (by kernel_rfl) (by kernel_rfl) (by kernel_rfl) (fun _ _ _ h => h) (Or.inl ⟨by rfl, ?hyb0⟩) (by assumption) ?restb0
        case hyb0 =>
          intro W hSw
          try dsimp only at hSw
          go_simp
          all_goals with_reducible rfl
        try simp only [Act.put, List.setIfInBounds_toArray, List.set_cons_zero, List.set_cons_succ]
        refine' wpAnyH_take (i := 1) (oi := { dst := some 59, op := Go.Op.move (Go.Operand.tmp 14), type := 3, pos := "outright.go:102", after := #[], guard := none }) (v := ?vb1) rfl (by kernel_rfl) (by kernel_rfl) (by kernel_rfl) (fun _ _ _ h => h) (Or.inl ⟨by rfl, ?hyb1⟩) (by assumption) ?restb1
        case hyb1 =>
          intro W hSw
          try dsimp only at hSw
          go_simp
          all_goals with_reducible rfl
        try simp only [Act.put, List.setIfInBounds_toArray, List.set_cons_zero, List.set_cons_succ]
        refine' wpAnyH_take (i := 2) (oi := { dst := some 60, op := Go.Op.indexAddr 22 (Go.Operand.tmp 58) (Go.Operand.tmp 59), type := 0, pos := "outright.go:102", after := #[{ on := 0, ground := Go.Ground.data }, { on := 1, ground := Go.Ground.data }], guard := none }) (v := ?vb2) rfl (by kernel_rfl) (by kernel_rfl) (by kernel_rfl) (fun _ _ _ h => h) (Or.inl ⟨by rfl, ?hyb2⟩) (by assumption) ?restb2
        case hyb2 =>
          intro W hSw
          try dsimp only at hSw
          go_simp
          all_goals with_reducible rfl
        try simp only [Act.put, List.setIfInBounds_toArray, List.set_cons_zero, List.set_cons_succ]
        refine' wpAnyH_take (i := 3) (oi := { dst := some 61, op := Go.Op.load 3 (Go.Operand.tmp 60), type := 3, pos := "outright.go:102", after := #[{ on := 2, ground := Go.Ground.data }], guard := none }) (v := ?vb3) rfl (by kernel_rfl) (by kernel_rfl) (by kernel_rfl) (fun _ _ _ h => h) (Or.inl ⟨by rfl, ?hyb3⟩) (by assumption) ?restb3
        case hyb3 =>
          intro W hSw
          try dsimp only at hSw
          go_simp
          all_goals with_reducible rfl
        try simp only [Act.put, List.setIfInBounds_toArray, List.set_cons_zero, List.set_cons_succ]
        refine' wpAnyH_take (i := 4) (oi := { dst := some 62, op := Go.Op.binOp Go.BinOp.lss 3 (Go.Operand.tmp 61) (Go.Operand.const (Go.Value.int Go.IntKind.i64 1)) 3, type := 4, pos := "outright.go:102", after := #[{ on := 3, ground := Go.Ground.data }], guard := none }) (v := ?vb4) rfl (by kernel_rfl) (by kernel_rfl) (by kernel_rfl) (fun _ _ _ h => h) (Or.inl ⟨by rfl, ?hyb4⟩) (by assumption) ?restb4
        case hyb4 =>
          intro W hSw
          try dsimp only at hSw
          go_simp
          all_goals with_reducible rfl
        try simp only [Act.put, List.setIfInBounds_toArray, List.set_cons_zero, List.set_cons_succ]
        refine' wpAnyH_take (i := 5) (oi := { dst := some 63, op := Go.Op.move (Go.Operand.tmp 62), type := 4, pos := "outright.go:102", after := #[{ on := 4, ground := Go.Ground.data }], guard := none }) (v := ?vb5) rfl (by kernel_rfl) (by kernel_rfl) (by kernel_rfl) (fun _ _ _ h => h) (Or.inl ⟨by rfl, ?hyb5⟩) (by assumption) ?restb5
        case hyb5 =>
          intro W hSw
          try dsimp only at hSw
          go_simp
          all_goals with_reducible rfl
        try simp only [Act.put, List.setIfInBounds_toArray, List.set_cons_zero, List.set_cons_succ]
        refine' wpAnyH_take (i := 6) (oi := { dst := some 64, op := Go.Op.move (Go.Operand.tmp 7), type := 22, pos := "outright.go:102", after := #[{ on := 5, ground := Go.Ground.guard }], guard := some (5, false) }) (v := ?vb6) rfl (by kernel_rfl) (by kernel_rfl) (by kernel_rfl) (fun _ _ _ h => h) (Or.inl ⟨by rfl, ?hyb6⟩) (by assumption) ?restb6
        case hyb6 =>
          intro W hSw
          try dsimp only at hSw
          go_simp
          all_goals with_reducible rfl
        try simp only [Act.put, List.setIfInBounds_toArray, List.set_cons_zero, List.set_cons_succ]
        refine' wpAnyH_take (i := 7) (oi := { dst := some 65, op := Go.Op.move (Go.Operand.tmp 14), type := 3, pos := "outright.go:102", after := #[{ on := 5, ground := Go.Ground.guard }], guard := some (5, false) }) (v := ?vb7) rfl (by kernel_rfl) (by kernel_rfl) (by kernel_rfl) (fun _ _ _ h => h) (Or.inl ⟨by rfl, ?hyb7⟩) (by assumption) ?restb7
        case hyb7 =>
          intro W hSw
          try dsimp only at hSw
          go_simp
          all_goals with_reducible rfl
        try simp only [Act.put, List.setIfInBounds_toArray, List.set_cons_zero, List.set_cons_succ]
        refine' wpAnyH_take (i := 8) (oi := { dst := some 66, op := Go.Op.indexAddr 22 (Go.Operand.tmp 64) (Go.Operand.tmp 65), type := 0, pos := "outright.go:102", after := #[{ on := 6, ground := Go.Ground.data }, { on := 7, ground := Go.Ground.data }, { on := 5, ground := Go.Ground.guard }], guard := some (5, false) }) (v := ?vb8) rfl (by kernel_rfl) (by kernel_rfl) (by kernel_rfl) (fun _ _ _ h => h) (Or.inl ⟨by rfl, ?hyb8⟩) (by assumption) ?restb8
        case hyb8 =>
          intro W hSw
          try dsimp only at hSw
          go_simp
          all_goals with_reducible rfl
        try simp only [Act.put, List.setIfInBounds_toArray, List.set_cons_zero, List.set_cons_succ]
        refine' wpAnyH_take (i := 9) (oi := { dst := some 67, op := Go.Op.load 3 (Go.Operand.tmp 66), type := 3, pos := "outright.go:102", after := #[{ on := 8, ground := Go.Ground.data }, { on := 5, ground := Go.Ground.guard }], guard := some (5, false) }) (v := ?vb9) rfl (by kernel_rfl) (by kernel_rfl) (by kernel_rfl) (fun _ _ _ h => h) (Or.inl ⟨by rfl, ?hyb9⟩) (by assumption) ?restb9
        case hyb9 =>
          intro W hSw
          try dsimp only at hSw
          go_simp
          all_goals with_reducible rfl
        try simp only [Act.put, List.setIfInBounds_toArray, List.set_cons_zero, List.set_cons_succ]
        refine' wpAnyH_take (i := 10) (oi := { dst := some 68, op := Go.Op.load 24 (Go.Operand.tmp 3), type := 24, pos := "outright.go:102", after := #[{ on := 5, ground := Go.Ground.guard }], guard := some (5, false) }) (v := ?vb10) rfl (by kernel_rfl) (by kernel_rfl) (by kernel_rfl) (fun _ _ _ h => h) (Or.inl ⟨by rfl, ?hyb10⟩) (by assumption) ?restb10
        case hyb10 =>
          intro W hSw
          try dsimp only at hSw
          go_simp
          all_goals with_reducible rfl
        try simp only [Act.put, List.setIfInBounds_toArray, List.set_cons_zero, List.set_cons_succ]
        refine wpAnyH_ready (rs := [11]) (by kernel_rfl) (by simp) ?_
        refine AllReadyH.cons (o := { dst := some 69, op := Go.Op.call { callee := Go.Callee.value (Go.Operand.func 43), args := #[Go.Operand.tmp 68], argTypes := #[24] }, type := 3, pos := "outright.go:102", after := #[{ on := 10, ground := Go.Ground.data }, { on := 5, ground := Go.Ground.chain }, { on := 5, ground := Go.Ground.guard }], guard := some (5, false) }) rfl (fun K hK => ?_) AllReadyH.nil
        go_simp
        (go_at_call 43; refine (H43.out _ _).mono ?_; rintro e w' ⟨rfl, hb⟩)
        all_goals (try (go_wp2_with fail))
        refine hK.out _ _ (by exact HKP.out _ _ (by assumption) hb) (fun hHeld2 => ?_)
        clear hK K
        try simp only [Act.put, List.setIfInBounds_toArray, List.set_cons_zero, List.set_cons_succ]
        refine' wpAnyH_take (i := 12) (oi := { dst := some 70, op := Go.Op.binOp Go.BinOp.gtr 3 (Go.Operand.tmp 67) (Go.Operand.tmp 69) 3, type := 4, pos := "outright.go:102", after := #[{ on := 9, ground := Go.Ground.data }, { on := 11, ground := Go.Ground.data }, { on := 5, ground := Go.Ground.guard }], guard := some (5, false) }) (v := ?vb12) rfl (by kernel_rfl) (by kernel_rfl) (by kernel_rfl) (fun _ _ _ h => h) (Or.inl ⟨by rfl, ?hyb12⟩) (by assumption) ?restb12
        case hyb12 =>
          intro W hSw
          try dsimp only at hSw
          go_simp
          all_goals with_reducible rfl
        try simp only [Act.put, List.setIfInBounds_toArray, List.set_cons_zero, List.set_cons_succ]
        refine' wpAnyH_take (i := 13) (oi := { dst := some 71, op := Go.Op.pick (Go.Operand.tmp 63) (Go.Operand.const (Go.Value.bool true)) (Go.Operand.tmp 70), type := 4, pos := "outright.go:102", after := #[{ on := 5, ground := Go.Ground.data }, { on := 12, ground := Go.Ground.data }], guard := none }) (v := ?vb13) rfl (by kernel_rfl) (by kernel_rfl) (by kernel_rfl) (fun _ _ _ h => h) (Or.inl ⟨by rfl, ?hyb13⟩) (by assumption) ?restb13
        case hyb13 =>
          intro W hSw
          try dsimp only at hSw
          go_simp
          all_goals with_reducible rfl
        try simp only [Act.put, List.setIfInBounds_toArray, List.set_cons_zero, List.set_cons_succ]
        refine' wpAnyH_take (i := 14) (oi := { dst := some 72, op := Go.Op.move (Go.Operand.tmp 71), type := 4, pos := "outright.go:102", after := #[{ on := 13, ground := Go.Ground.data }, { on := 11, ground := Go.Ground.chain }], guard := none }) (v := ?vb14) rfl (by kernel_rfl) (by kernel_rfl) (by kernel_rfl) (fun _ _ _ h => h) (Or.inl ⟨by rfl, ?hyb14⟩) (by assumption) ?restb14
        case hyb14 =>
          intro W hSw
          try dsimp only at hSw
          go_simp
          all_goals with_reducible rfl
        try simp only [Act.put, List.setIfInBounds_toArray, List.set_cons_zero, List.set_cons_succ]
        refine' wpAnyH_take (i := 15) (oi := { dst := some 73, op := Go.Op.move (Go.Operand.tmp 14), type := 3, pos := "outright.go:102", after := #[{ on := 14, ground := Go.Ground.guard }], guard := some (14, false) }) (v := ?vb15) rfl (by kernel_rfl) (by kernel_rfl) (by kernel_rfl) (fun _ _ _ h => h) (Or.inl ⟨by rfl, ?hyb15⟩) (by assumption) ?restb15
        case hyb15 =>
          intro W hSw
          try dsimp only at hSw
          go_simp
          all_goals with_reducible rfl
        try simp only [Act.put, List.setIfInBounds_toArray, List.set_cons_zero, List.set_cons_succ]
        refine' wpAnyH_take (i := 16) (oi := { dst := some 74, op := Go.Op.binOp Go.BinOp.gtr 3 (Go.Operand.tmp 73) (Go.Operand.const (Go.Value.int Go.IntKind.i64 0)) 3, type := 4, pos := "outright.go:102", after := #[{ on := 15, ground := Go.Ground.data }, { on := 14, ground := Go.Ground.guard }], guard := some (14, false) }) (v := ?vb16) rfl (by kernel_rfl) (by kernel_rfl) (by kernel_rfl) (fun _ _ _ h => h) (Or.inl ⟨by rfl, ?hyb16⟩) (by assumption) ?restb16
        case hyb16 =>
          intro W hSw
          try dsimp only at hSw
          go_simp
          all_goals with_reducible rfl
        try simp only [Act.put, List.setIfInBounds_toArray, List.set_cons_zero, List.set_cons_succ]
        refine' wpAnyH_take (i := 17) (oi := { dst := some 75, op := Go.Op.move (Go.Operand.tmp 74), type := 4, pos := "outright.go:102", after := #[{ on := 16, ground := Go.Ground.data }, { on := 14, ground := Go.Ground.chain }, { on := 14, ground := Go.Ground.guard }], guard := some (14, false) }) (v := ?vb17) rfl (by kernel_rfl) (by kernel_rfl) (by kernel_rfl) (fun _ _ _ h => h) (Or.inl ⟨by rfl, ?hyb17⟩) (by assumption) ?restb17
        case hyb17 =>
          intro W hSw
          try dsimp only at hSw
          go_simp
          all_goals with_reducible rfl
        try simp only [Act.put, List.setIfInBounds_toArray, List.set_cons_zero, List.set_cons_succ]
        refine' wpAnyH_take (i := 18) (oi := { dst := some 76, op := Go.Op.move (Go.Operand.tmp 7), type := 22, pos := "outright.go:102", after := #[{ on := 17, ground := Go.Ground.guard }], guard := some (17, true) }) (v := ?vb18) rfl (by kernel_rfl) (by kernel_rfl) (by kernel_rfl) (fun _ _ _ h => h) (Or.inl ⟨by rfl, ?hyb18⟩) (by assumption) ?restb18
        case hyb18 =>
          intro W hSw
          try dsimp only at hSw
          go_simp
          all_goals with_reducible rfl
        try simp only [Act.put, List.setIfInBounds_toArray, List.set_cons_zero, List.set_cons_succ]
        refine' wpAnyH_take (i := 19) (oi := { dst := some 77, op := Go.Op.move (Go.Operand.tmp 14), type := 3, pos := "outright.go:102", after := #[{ on := 17, ground := Go.Ground.guard }], guard := some (17, true) }) (v := ?vb19) rfl (by kernel_rfl) (by kernel_rfl) (by kernel_rfl) (fun _ _ _ h => h) (Or.inl ⟨by rfl, ?hyb19⟩) (by assumption) ?restb19
        case hyb19 =>
          intro W hSw
          try dsimp only at hSw
          go_simp
          all_goals with_reducible rfl
        try simp only [Act.put, List.setIfInBounds_toArray, List.set_cons_zero, List.set_cons_succ]
        refine' wpAnyH_take (i := 20) (oi := { dst := some 78, op := Go.Op.indexAddr 22 (Go.Operand.tmp 76) (Go.Operand.tmp 77), type := 0, pos := "outright.go:102", after := #[{ on := 18, ground := Go.Ground.data }, { on := 19, ground := Go.Ground.data }, { on := 17, ground := Go.Ground.guard }], guard := some (17, true) }) (v := ?vb20) rfl (by kernel_rfl) (by kernel_rfl) (by kernel_rfl) (fun _ _ _ h => h) (Or.inl ⟨by rfl, ?hyb20⟩) (by assumption) ?restb20
        case hyb20 =>
          intro W hSw
          try dsimp only at hSw
          go_simp
          all_goals with_reducible rfl
        try simp only [Act.put, List.setIfInBounds_toArray, List.set_cons_zero, List.set_cons_succ]
        refine' wpAnyH_take (i := 21) (oi := { dst := some 79, op := Go.Op.load 3 (Go.Operand.tmp 78), type := 3, pos := "outright.go:102", after := #[{ on := 20, ground := Go.Ground.data }, { on := 17, ground := Go.Ground.guard }], guard := some (17, true) }) (v := ?vb21) rfl (by kernel_rfl) (by kernel_rfl) (by kernel_rfl) (fun _ _ _ h => h) (Or.inl ⟨by rfl, ?hyb21⟩) (by assumption) ?restb21
        case hyb21 =>
          intro W hSw
          try dsimp only at hSw
          go_simp
          all_goals with_reducible rfl
        try simp only [Act.put, List.setIfInBounds_toArray, List.set_cons_zero, List.set_cons_succ]
        refine' wpAnyH_take (i := 22) (oi := { dst := some 80, op := Go.Op.move (Go.Operand.tmp 7), type := 22, pos := "outright.go:102", after := #[{ on := 17, ground := Go.Ground.guard }], guard := some (17, true) }) (v := ?vb22) rfl (by kernel_rfl) (by kernel_rfl) (by kernel_rfl) (fun _ _ _ h => h) (Or.inl ⟨by rfl, ?hyb22⟩) (by assumption) ?restb22
        case hyb22 =>
          intro W hSw
          try dsimp only at hSw
          go_simp
          all_goals with_reducible rfl
        try simp only [Act.put, List.setIfInBounds_toArray, List.set_cons_zero, List.set_cons_succ]
        refine' wpAnyH_take (i := 23) (oi := { dst := some 81, op := Go.Op.move (Go.Operand.tmp 14), type := 3, pos := "outright.go:102", after := #[{ on := 17, ground := Go.Ground.guard }], guard := some (17, true) }) (v := ?vb23) rfl (by kernel_rfl) (by kernel_rfl) (by kernel_rfl) (fun _ _ _ h => h) (Or.inl ⟨by rfl, ?hyb23⟩) (by assumption) ?restb23
        case hyb23 =>
          intro W hSw
          try dsimp only at hSw
          go_simp
          all_goals with_reducible rfl
        try simp only [Act.put, List.setIfInBounds_toArray, List.set_cons_zero, List.set_cons_succ]
        refine' wpAnyH_take (i := 24) (oi := { dst := some 82, op := Go.Op.binOp Go.BinOp.sub 3 (Go.Operand.tmp 81) (Go.Operand.const (Go.Value.int Go.IntKind.i64 1)) 3, type := 3, pos := "outright.go:102", after := #[{ on := 23, ground := Go.Ground.data }, { on := 17, ground := Go.Ground.guard }], guard := some (17, true) }) (v := ?vb24) rfl (by kernel_rfl) (by kernel_rfl) (by kernel_rfl) (fun _ _ _ h => h) (Or.inl ⟨by rfl, ?hyb24⟩) (by assumption) ?restb24
        case hyb24 =>
          intro W hSw
          try dsimp only at hSw
          go_simp
          all_goals with_reducible rfl
        try simp only [Act.put, List.setIfInBounds_toArray, List.set_cons_zero, List.set_cons_succ]
        refine' wpAnyH_take (i := 25) (oi := { dst := some 83, op := Go.Op.indexAddr 22 (Go.Operand.tmp 80) (Go.Operand.tmp 82), type := 0, pos := "outright.go:102", after := #[{ on := 22, ground := Go.Ground.data }, { on := 24, ground := Go.Ground.data }, { on := 17, ground := Go.Ground.guard }], guard := some (17, true) }) (v := ?vb25) rfl (by kernel_rfl) (by kernel_rfl) (by kernel_rfl) (fun _ _ _ h => h) (Or.inl ⟨by rfl, ?hyb25⟩) (by assumption) ?restb25
        case hyb25 =>
          intro W hSw
          try dsimp only at hSw
          go_simp
          all_goals with_reducible rfl
        try simp only [Act.put, List.setIfInBounds_toArray, List.set_cons_zero, List.set_cons_succ]
        refine' wpAnyH_take (i := 26) (oi := { dst := some 84, op := Go.Op.load 3 (Go.Operand.tmp 83), type := 3, pos := "outright.go:102", after := #[{ on := 25, ground := Go.Ground.data }, { on := 17, ground := Go.Ground.guard }], guard := some (17, true) }) (v := ?vb26) rfl (by kernel_rfl) (by kernel_rfl) (by kernel_rfl) (fun _ _ _ h => h) (Or.inl ⟨by rfl, ?hyb26⟩) (by assumption) ?restb26
        case hyb26 =>
          intro W hSw
          try dsimp only at hSw
          go_simp
          all_goals with_reducible rfl
        try simp only [Act.put, List.setIfInBounds_toArray, List.set_cons_zero, List.set_cons_succ]
        refine' wpAnyH_take (i := 27) (oi := { dst := some 85, op := Go.Op.binOp Go.BinOp.leq 3 (Go.Operand.tmp 79) (Go.Operand.tmp 84) 3, type := 4, pos := "outright.go:102", after := #[{ on := 21, ground := Go.Ground.data }, { on := 26, ground := Go.Ground.data }, { on := 17, ground := Go.Ground.guard }], guard := some (17, true) }) (v := ?vb27) rfl (by kernel_rfl) (by kernel_rfl) (by kernel_rfl) (fun _ _ _ h => h) (Or.inl ⟨by rfl, ?hyb27⟩) (by assumption) ?restb27
        case hyb27 =>
          intro W hSw
          try dsimp only at hSw
          go_simp
          all_goals with_reducible rfl
        try simp only [Act.put, List.setIfInBounds_toArray, List.set_cons_zero, List.set_cons_succ]
        refine' wpAnyH_take (i := 28) (oi := { dst := some 86, op := Go.Op.pick (Go.Operand.tmp 75) (Go.Operand.tmp 85) (Go.Operand.const (Go.Value.bool false)), type := 4, pos := "outright.go:102", after := #[{ on := 17, ground := Go.Ground.data }, { on := 27, ground := Go.Ground.data }, { on := 14, ground := Go.Ground.guard }], guard := some (14, false) }) (v := ?vb28) rfl (by kernel_rfl) (by kernel_rfl) (by kernel_rfl) (fun _ _ _ h => h) (Or.inl ⟨by rfl, ?hyb28⟩) (by assumption) ?restb28
        case hyb28 =>
          intro W hSw
          try dsimp only at hSw
          go_simp
          all_goals with_reducible rfl
        try simp only [Act.put, List.setIfInBounds_toArray, List.set_cons_zero, List.set_cons_succ]
        refine' wpAnyH_take (i := 29) (oi := { dst := some 87, op := Go.Op.pick (Go.Operand.tmp 72) (Go.Operand.const (Go.Value.bool true)) (Go.Operand.tmp 86), type := 4, pos := "outright.go:102", after := #[{ on := 14, ground := Go.Ground.data }, { on := 28, ground := Go.Ground.data }], guard := none }) (v := ?vb29) rfl (by kernel_rfl) (by kernel_rfl) (by kernel_rfl) (fun _ _ _ h => h) (Or.inl ⟨by rfl, ?hyb29⟩) (by assumption) ?restb29
        case hyb29 =>
          intro W hSw
          try dsimp only at hSw
          go_simp
          all_goals with_reducible rfl
        try simp only [Act.put, List.setIfInBounds_toArray, List.set_cons_zero, List.set_cons_succ]
        refine wpAnyH_done (by kernel_rfl) ?_ _
        refine NoPanic.normal ?_
        all_goals
          have hk := hHeld2
          obtain ⟨q1, q2, q3, q4, q5, r9⟩ := hk
          have HY := Lib.hid (hE.out.trans r9.out)
          clear r9 g1 g2 g3 c0 c1
          cases f0
          · rw [Bool.false_or] at hsucc
            by_cases hqm : q = m
            · have hd3 : ((q : Int) == (m : Int)) = true := by simp [hqm]
              have HS := Lib.hid (show true = hasB fl m (j' + 1 + 1) from by rw [hsucc]; simp [hqm])
              clear hsucc hqm
              go_wp2
              go_roundw
              case rel => exact ⟨(j' + 1 + 1), true, by omega, by go_num, rfl, HY.out, HS.out⟩
              case measure => simp [RowKit.intOf]; omega
            · have hd3 : ((q : Int) == (m : Int)) = false := by simp; omega
              have HS := Lib.hid (show false = hasB fl m (j' + 1 + 1) from by rw [hsucc]; simp [hqm])
              clear hsucc hqm
              go_wp2
              go_roundw
              case rel => exact ⟨(j' + 1 + 1), false, by omega, by go_num, rfl, HY.out, HS.out⟩
              case measure => simp [RowKit.intOf]; omega
          · rw [Bool.true_or] at hsucc
            have HS := Lib.hid (show true = hasB fl m (j' + 1 + 1) from hsucc.symm)
            clear hsucc
            go_wp2
            go_roundw
            case rel => exact ⟨(j' + 1 + 1), true, by omega, by go_num, rfl, HY.out, HS.out⟩
            case measure => simp [RowKit.intOf]; omega
    · have hje : ln = j := by omega
      subst hje
      have hf0 := hF0.out
      rw [HALL.out] at hf0
      subst hf0
      clear hlt
      go_wp2_with fail
      refine (H44.out m _ (E0.out.trans (HX.out.trans hE.out))).mono ?_
      rintro e w5 ⟨u5, rfl, hu5, hb⟩
      obtain ⟨g1, g2, g3⟩ := OffAt.ext ⟨g1, g2, g3⟩ hb
      have HY := Lib.hid (hE.out.trans hb); clear hb
      have h26 := H26q.out m HML.out.1 HML.out.2 u5 w5 hu5
      rw [HFM.out] at h26
      have H26m := Lib.hid h26
      clear h26 hu5
      go_wp2_with fail
      refine H26m.out.mono ?_
      rintro e w6 ⟨y3, y4, rfl, hb⟩
      obtain ⟨g1, g2, g3⟩ := OffAt.ext ⟨g1, g2, g3⟩ hb
      replace HY := Lib.hid (HY.out.trans hb); clear hb H26m
      by_cases hl0 : ln = 0
      · have hl0b : ((ln : Int) == 0) = true := by simp [hl0]
        clear hl0
        cases A <;> cases f0 <;> simp only [Bool.and_true, Bool.and_false, Bool.and_self, codeB, if_true, if_false, Bool.false_eq_true]
        all_goals
          go_wp2_with fail
          refine (works18 _).mono ?_
          rintro e w7 ⟨rfl, hb⟩
          have HZ := Lib.hid (HY.out.trans hb); clear hb
          go_wp2
          go_ret
          exact ⟨rfl, E0.out.trans (HX.out.trans HZ.out)⟩
      · have hl0b := len_nil_false hl0
        obtain ⟨k, hk⟩ : ∃ k, k = z % ln := ⟨_, rfl⟩
        have hkl : k < ln := by rw [hk]; exact Nat.mod_lt _ (by omega)
        have e9 : (z : Int) % (ln : Int) = (k : Int) := by rw [hk]; simp
        have e10 := hk.symm
        obtain ⟨q, hq⟩ := get_some (show k < fl.length by rw [← HLN.out]; exact hkl)
        obtain ⟨b2, off2, hbo, -, c0⟩ := (HU.out.ext HY.out).atN hq
        subst hbo
        obtain ⟨⟨hq1, hq2⟩, hq3⟩ := HMEM.out q (List.mem_of_getElem? hq)
        have h26 := fun u W hu => H26q.out q hq1 hq2 u W hu
        rw [hq3] at h26
        have H26z := Lib.hid h26
        have H44z := Lib.hid (fun W (h : Ext w6 W) => H44.out q W (E0.out.trans (HX.out.trans (HY.out.trans h))))
        have hka : (0 : Int) ≤ (k : Int) := by omega
        have hkb : (k : Int) < (ln : Int) := by omega
        have hlz : ¬ (ln : Int) = 0 := by omega
        have wz : IntKind.i64.wrap (z : Int) = (z : Int) := wrapi64 _ (by omega)
        have wk : IntKind.i64.wrap (k : Int) = (k : Int) := wrapi64 _ (by omega)
        have e12 : ((z : Nat) : Int).tmod (ln : Int) = (k : Int) := by rw [← Int.ofNat_tmod, e10]
        clear hk hq hq1 hq2 hq3 h26
        cases A <;> cases f0 <;> simp only [Bool.and_true, Bool.and_false, Bool.and_self, codeB, if_true, if_false, Bool.false_eq_true] at H26z ⊢
        all_goals
          go_wp2
          have KP : ∀ X X' : World, (X.cell? ⟨w.heap.size, 0, none⟩ = some (.int .i64 (S : Int)) ∧ X.cell? ⟨w.heap.size, 1, none⟩ = some (.int .i64 (L : Int)) ∧ X.cell? ⟨w.heap.size, 2, none⟩ = some (.slice a n cap) ∧ X.cell? ⟨b2, off2 + k, none⟩ = some (.int .i64 (q : Int)) ∧ Hid (Ext w6 X)) → Ext X X' → (X'.cell? ⟨w.heap.size, 0, none⟩ = some (.int .i64 (S : Int)) ∧ X'.cell? ⟨w.heap.size, 1, none⟩ = some (.int .i64 (L : Int)) ∧ X'.cell? ⟨w.heap.size, 2, none⟩ = some (.slice a n cap) ∧ X'.cell? ⟨b2, off2 + k, none⟩ = some (.int .i64 (q : Int)) ∧ Hid (Ext w6 X')) :=
            fun X X' h hb => ⟨cell_ext hb h.1, cell_ext hb h.2.1, cell_ext hb h.2.2.1, cell_ext hb h.2.2.2.1, Ext.trans h.2.2.2.2.out hb⟩
          have HKP := Lib.hid KP; clear KP
          go_region_held3 (fun X => X.cell? ⟨w.heap.size, 0, none⟩ = some (.int .i64 (S : Int)) ∧ X.cell? ⟨w.heap.size, 1, none⟩ = some (.int .i64 (L : Int)) ∧ X.cell? ⟨w.heap.size, 2, none⟩ = some (.slice a n cap) ∧ X.cell? ⟨b2, off2 + k, none⟩ = some (.int .i64 (q : Int)) ∧ Hid (Ext w6 X))
            (first | assumption | exact ⟨g1, g2, g3, c0, Ext.drew (Ext.refl _)⟩ | exact HKP.out _ _ (by assumption) hb | fail)
            (first | (go_at_call 44; refine (H44z.out _ (of_and5 (by assumption))).mono ?_; rintro e w' ⟨u, rfl, hu, hb⟩)
                   | (go_at_call 26; refine (H26z.out _ _ (by assumption)).mono ?_; rintro e w' ⟨y5, y6, rfl, hb⟩) | fail)
          all_goals
            rename_i hk
            obtain ⟨q1, q2, q3, q4, q5⟩ := hk
            have HZ := Lib.hid (HY.out.trans q5.out)
            clear q5 g1 g2 g3 c0
            go_wp2_with fail
            refine (works18 _).mono ?_
            rintro e w7 ⟨rfl, hb⟩
            replace HZ := Lib.hid (HZ.out.trans hb); clear hb
            go_wp2
            go_ret
            exact ⟨rfl, E0.out.trans (HX.out.trans HZ.out)⟩
end Go.Proofs.Ytlgdnbpboonhdaa
