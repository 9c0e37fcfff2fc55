/- numbers (49): marks by numbers. A list of numbers of sixteen bits in memory. -/
import Derived.Test.YtlgdnbpboonhdaaG9
namespace Go.Proofs.Ytlgdnbpboonhdaa
open Go.RowKit Go.Shelf Go.Maps
set_option linter.unusedVariables false
set_option linter.unusedSimpArgs false
attribute [local go_sem] Oper.semAt_some
def Reads16 (w : World) (v : Value) (xs : List Nat) : Prop :=
  xs.length ≤ 5000 ∧ ∃ a cap, v = .slice a xs.length cap ∧ ((a = none ∧ xs = []) ∨ ∃ b off, a = some ⟨b, off, none⟩ ∧ ∀ (i x : Nat), xs[i]? = some x → w.cell? ⟨b, off + i, none⟩ = some (.int .u16 (x : Int)))
theorem Reads16.ext {w w' : World} {v : Value} {xs : List Nat} (h : Reads16 w v xs) (hb : Ext w w') : Reads16 w' v xs := by
  obtain ⟨hl, a, cap, rfl, h⟩ := h
  refine ⟨hl, a, cap, rfl, h.imp id ?_⟩
  rintro ⟨b, off, rfl, hc⟩
  exact ⟨b, off, rfl, fun i x hx => cell_ext hb (hc i x hx)⟩
theorem Reads16.at {w : World} {a : Option Addr} {n cap : Nat} {xs : List Nat} (h : Reads16 w (.slice a n cap) xs) {k x : Nat} (hk : xs[k]? = some x) : ∃ b off, a = some ⟨b, off, none⟩ ∧ w.cell? ⟨b, off + k, none⟩ = some (.int .u16 (x : Int)) := by
  obtain ⟨hl, a', cap', e, h⟩ := h
  cases e
  rcases h with ⟨rfl, rfl⟩ | ⟨b, off, rfl, hc⟩
  · simp at hk
  · exact ⟨b, off, rfl, hc k x hk⟩
theorem Ext.trans2 {a b c : World} (h : Ext a b) (k : Below a.heap.size b c) : Ext a c := Below.trans h k
theorem below_cell {W X X' : World} {b o : Nat} {v v0 : Value} (h : Ext W X) (hb : Below W.heap.size X X') (h0 : W.cell? ⟨b, o, none⟩ = some v0) (hc : X.cell? ⟨b, o, none⟩ = some v) : X'.cell? ⟨b, o, none⟩ = some v := by
  rw [hb.cell (p := ⟨b, o, none⟩) (lt_of_cell h0)]
  exact hc
theorem wp_append1 {o : Oper} {a : Act} {K : Act → World → Prop} {Q : Exit → Act → World → Prop} (w : World) (B : Nat) (xs : List Int) (x : Int) (v : Value) (s t : Operand)
    (ho : o.op = .call { callee := .builtin .append, args := #[s, t], argTypes := #[22, 22] }) (hs : a.eval s = v) (hown : Owns B w v xs) (hB : B ≤ w.heap.size) (hl : xs.length ≤ 5000)
    (hx : a.eval t = .slice (some ⟨w.heap.size, 0, none⟩) 1 1)
    (h : ∀ v' w', Owns B w' v' (xs ++ [x]) → Below B (w.alloc (.cells #[.int .i64 x] 3)) w' → K (a.put o.dst v') w') : o.wp Try.prog a (w.alloc (.cells #[.int .i64 x] 3)) K Q := by
  obtain ⟨i0, hi0, hz0, hz1, hz2⟩ := info_parts Try.info3
  have hown2 : Owns B (w.alloc (.cells #[.int .i64 x] 3)) v xs := ownsI_ext hown ((Ext.refl w).alloc _)
  refine wp_append_own _ s t 22 ho B 3 i0 (.int .i64 0) 1 8 Try.underlying22 hi0 hz0 hz1 hz2 rfl (by decide) v _ _ hs hown2 ⟨w.heap.size, 0, none⟩ 1 1 [.int .i64 x] hx rfl ?_ ?_ ?_ ?_ ?_ ?_
  · intro j u hj
    match j, hj with
    | 0, hj =>
      simp at hj; subst hj
      rw [show (⟨w.heap.size, 0, none⟩ : Addr).add 0 = ⟨w.heap.size, 0, none⟩ by simp [Addr.add], World.cell?_alloc_at _ _ _ _ rfl]; rfl
  · intro u hu; simp at hu; subst hu; rfl
  · unfold maxLen; omega
  · omega
  · simp; omega
  · intro v' w' h1 h2 _
    refine h v' w' ?_ ?_
    · unfold Owns; simpa using h1
    · exact (Below.refl B _).grown h2 (by simp; omega) fun k hk => (hown2.lt k hk).1
def numL (S : Nat) (ns : List Nat) : List Nat := (ns.take 12).map fun x => 1 + x % full S
set_option maxRecDepth 100000 in
set_option maxHeartbeats 4000000 in
theorem numbers49 (S L : Nat) (ms ns : List Nat) (v u : Value) (w : World) (hv : Valid S L ms) (hr : Reads w v (ints ms)) (hu : Reads16 w u ns) (hb : ∀ x ∈ ns, x ≤ 65535) :
    Calls Try.prog 49 #[.agg #[.int .i64 (S : Int), .int .i64 (L : Int), v], u] w fun e w' => ∃ u', e = .returned u' ∧ (Reads w' u' (ints (numL S ns)) ∧ CapOk u') ∧ Ext w w' := by
  obtain ⟨hl, a, cap, rfl⟩ := hr.shape
  have hu' := hu
  obtain ⟨hl2, a2, cap2, rfl, -⟩ := hu'
  rw [ints_length]
  have E0 := Lib.hid ((Ext.refl w).alloc (.cells #[.int .i64 (S : Int), .int .i64 (L : Int), .slice a ms.length cap] 24))
  have P0 := Lib.hid (OffAt.new w (.int .i64 (S : Int)) (.int .i64 (L : Int)) (.slice a ms.length cap) 24)
  have H43 := Lib.hid (fun v W => all43_any S (L : Int) v W hv.1 hv.2.1)
  have hfs := full_lt S hv.2.1
  have hf1 : 1 ≤ full S := by
    have h1 := hv.1
    have : 2 ^ 1 ≤ 2 ^ S := Nat.pow_le_pow_right (by omega) h1
    unfold full; omega
  obtain ⟨fS, hfS⟩ : ∃ fS, fS = full S := ⟨_, rfl⟩
  have HNUM := Lib.hid (show numL S ns = (ns.take 12).map fun x => 1 + x % fS from by rw [hfS]; rfl)
  rw [← hfS] at H43 hfs hf1
  have HU := Lib.hid hu; have HBD := Lib.hid hb
  obtain ⟨n0, hn0⟩ : ∃ n0, n0 = ms.length := ⟨_, rfl⟩
  obtain ⟨n, hn⟩ : ∃ n, n = ns.length := ⟨_, rfl⟩
  have HN := Lib.hid hn
  rw [← hn0] at E0 P0 ⊢
  rw [← hn] at HU hl2 ⊢
  clear hv hr hu hb hn0 hn hl hfS
  go_enter Try.func49, Try.ntmps49
  go_wp2
  generalize (w.alloc (.cells #[.int .i64 (S : Int), .int .i64 (L : Int), .slice a n0 cap] 24)) = W0 at *
  go_loopw [5, 6] (fun v z wr => ∃ i : Nat, i ≤ n ∧ i ≤ 12 ∧ z = .int .i64 (i : Int) ∧ Hid (Ext W0 wr) ∧ Hid (Owns W0.heap.size wr v (ints ((ns.take i).map fun x => 1 + x % fS)))) (fun v z wr => n - (RowKit.intOf z).toNat)
  case atStart => exact ⟨0, Nat.zero_le _, Nat.zero_le _, rfl, Ext.refl _, (Owns.nil _ _ : Owns _ _ _ _)⟩
  case round =>
    obtain ⟨i, hi, hi12, rfl, hE, hO⟩ := hrel
    obtain ⟨g1, g2, g3⟩ := P0.out.ext hE.out
    by_cases hlt : i < n
    · by_cases h12 : i < 12
      · obtain ⟨x, hx⟩ := get_some (show i < ns.length by rw [← HN.out]; exact hlt)
        have hxb := HBD.out x (List.mem_of_getElem? hx)
        obtain ⟨b1, off1, hbo, c00⟩ := (HU.out.ext E0.out).at hx
        subst hbo
        have HC0 := Lib.hid c00
        have c0 := cell_ext hE.out c00
        have hia : (0 : Int) ≤ (i : Int) := by omega
        have hib : (i : Int) < (n : Int) := by omega
        obtain ⟨r, hr⟩ : ∃ r, r = x % fS := ⟨_, rfl⟩
        have hrl : r < fS := by rw [hr]; exact Nat.mod_lt _ (by omega)
        have e7 : (x : Int) % (fS : Int) = (r : Int) := by rw [hr]; simp
        have e7t : ((x : Nat) : Int).tmod (fS : Int) = (r : Int) := by rw [← Int.ofNat_tmod, hr]
        have e7n := hr.symm
        obtain ⟨y, hy⟩ : ∃ y, y = 1 + r := ⟨_, rfl⟩
        have e8 : (1 : Int) + (r : Int) = (y : Int) := by omega
        have hyb : y ≤ 1024 := by omega
        have hfz : ¬ (fS : Int) = 0 := by omega
        have hfzn : ¬ fS = 0 := by omega
        have wx : IntKind.i64.wrap (x : Int) = (x : Int) := wrapi64 _ (by omega)
        have wr1 : IntKind.i64.wrap (r : Int) = (r : Int) := wrapi64 _ (by omega)
        have wy : IntKind.i64.wrap (y : Int) = (y : Int) := wrapi64 _ (by omega)
        have hps : (ns.take (i + 1)).map (fun x => 1 + x % fS) = (ns.take i).map (fun x => 1 + x % fS) ++ [y] := by rw [take_snoc hx, List.map_append, hy, hr]; rfl
        have hol : ((ns.take i).map (fun x => 1 + x % fS)).length ≤ 5000 := by simp; omega
        have HPS := Lib.hid hps
        clear hps hx hr hy c00
        go_wp2
        have KP : ∀ X X' : World, (X.cell? ⟨w.heap.size, 0, none⟩ = some (.int .i64 (S : Int)) ∧ X.cell? ⟨w.heap.size, 1, none⟩ = some (.int .i64 (L : Int)) ∧ X.cell? ⟨w.heap.size, 2, none⟩ = some (.slice a n0 cap) ∧ X.cell? ⟨b1, off1 + i, none⟩ = some (.int .u16 (x : Int)) ∧ Hid (Ext W0 X)) → Below W0.heap.size X X' → (X'.cell? ⟨w.heap.size, 0, none⟩ = some (.int .i64 (S : Int)) ∧ X'.cell? ⟨w.heap.size, 1, none⟩ = some (.int .i64 (L : Int)) ∧ X'.cell? ⟨w.heap.size, 2, none⟩ = some (.slice a n0 cap) ∧ X'.cell? ⟨b1, off1 + i, none⟩ = some (.int .u16 (x : Int)) ∧ Hid (Ext W0 X')) :=
          fun X X' h hb => ⟨below_cell h.2.2.2.2.out hb P0.out.1 h.1, below_cell h.2.2.2.2.out hb P0.out.2.1 h.2.1, below_cell h.2.2.2.2.out hb P0.out.2.2 h.2.2.1, below_cell h.2.2.2.2.out hb HC0.out h.2.2.2.1, Ext.trans2 h.2.2.2.2.out hb⟩
        have HKP := Lib.hid KP; clear KP
        refine wp_region_noPanic ?_
        refine wp_region_held_drew (S := (fun X => X.cell? ⟨w.heap.size, 0, none⟩ = some (.int .i64 (S : Int)) ∧ X.cell? ⟨w.heap.size, 1, none⟩ = some (.int .i64 (L : Int)) ∧ X.cell? ⟨w.heap.size, 2, none⟩ = some (.slice a n0 cap) ∧ X.cell? ⟨b1, off1 + i, none⟩ = some (.int .u16 (x : Int)) ∧ Hid (Ext W0 X))) (by kernel_rfl) (by exact ⟨g1, g2, g3, c0, Ext.drew hE.out⟩) (fun hHeld => ?_)
        refine' wpAnyH_take (i := 0) (oi := { dst := some 17, op := Go.Op.move (Go.Operand.tmp 5), type := 22, pos := "outright.go:170", after := #[], guard := none }) (v := ?va0) rfl (by kernel_rfl) (by kernel_rfl) (by kernel_rfl) (fun _ _ _ h => h) (Or.inl ⟨by rfl, ?hya0⟩) (by assumption) ?resta0
        case hya0 =>
          intro W hSw
          try dsimp only at hSw
          go_simp
          all_goals with_reducible rfl
        try simp only [Act.put, List.setIfInBounds_toArray, List.set_cons_zero, List.set_cons_succ]
        refine' wpAnyH_take (i := 1) (oi := { dst := some 18, op := Go.Op.move (Go.Operand.tmp 1), type := 54, pos := "outright.go:170", after := #[], guard := none }) (v := ?va1) rfl (by kernel_rfl) (by kernel_rfl) (by kernel_rfl) (fun _ _ _ h => h) (Or.inl ⟨by rfl, ?hya1⟩) (by assumption) ?resta1
        case hya1 =>
          intro W hSw
          try dsimp only at hSw
          go_simp
          all_goals with_reducible rfl
        try simp only [Act.put, List.setIfInBounds_toArray, List.set_cons_zero, List.set_cons_succ]
        refine' wpAnyH_take (i := 2) (oi := { dst := some 19, op := Go.Op.move (Go.Operand.tmp 6), type := 3, pos := "outright.go:170", after := #[], guard := none }) (v := ?va2) rfl (by kernel_rfl) (by kernel_rfl) (by kernel_rfl) (fun _ _ _ h => h) (Or.inl ⟨by rfl, ?hya2⟩) (by assumption) ?resta2
        case hya2 =>
          intro W hSw
          try dsimp only at hSw
          go_simp
          all_goals with_reducible rfl
        try simp only [Act.put, List.setIfInBounds_toArray, List.set_cons_zero, List.set_cons_succ]
        refine' wpAnyH_take (i := 3) (oi := { dst := some 20, op := Go.Op.indexAddr 54 (Go.Operand.tmp 18) (Go.Operand.tmp 19), type := 0, pos := "outright.go:170", after := #[{ on := 1, ground := Go.Ground.data }, { on := 2, ground := Go.Ground.data }], guard := none }) (v := ?va3) rfl (by kernel_rfl) (by kernel_rfl) (by kernel_rfl) (fun _ _ _ h => h) (Or.inl ⟨by rfl, ?hya3⟩) (by assumption) ?resta3
        case hya3 =>
          intro W hSw
          try dsimp only at hSw
          go_simp
          all_goals with_reducible rfl
        try simp only [Act.put, List.setIfInBounds_toArray, List.set_cons_zero, List.set_cons_succ]
        refine' wpAnyH_take (i := 4) (oi := { dst := some 21, op := Go.Op.load 44 (Go.Operand.tmp 20), type := 44, pos := "outright.go:170", after := #[{ on := 3, ground := Go.Ground.data }], guard := none }) (v := ?va4) rfl (by kernel_rfl) (by kernel_rfl) (by kernel_rfl) (fun _ _ _ h => h) (Or.inl ⟨by rfl, ?hya4⟩) (by assumption) ?resta4
        case hya4 =>
          intro W hSw
          try dsimp only at hSw
          go_simp
          all_goals with_reducible rfl
        try simp only [Act.put, List.setIfInBounds_toArray, List.set_cons_zero, List.set_cons_succ]
        refine' wpAnyH_take (i := 5) (oi := { dst := some 22, op := Go.Op.convert 44 3 (Go.Operand.tmp 21), type := 3, pos := "outright.go:170", after := #[{ on := 4, ground := Go.Ground.data }], guard := none }) (v := ?va5) rfl (by kernel_rfl) (by kernel_rfl) (by kernel_rfl) (fun _ _ _ h => h) (Or.inl ⟨by rfl, ?hya5⟩) (by assumption) ?resta5
        case hya5 =>
          intro W hSw
          try dsimp only at hSw
          go_simp
          all_goals with_reducible rfl
        try simp only [Act.put, List.setIfInBounds_toArray, List.set_cons_zero, List.set_cons_succ]
        refine' wpAnyH_take (i := 6) (oi := { dst := some 23, op := Go.Op.load 24 (Go.Operand.tmp 2), type := 24, pos := "outright.go:170", after := #[], guard := none }) (v := ?va6) rfl (by kernel_rfl) (by kernel_rfl) (by kernel_rfl) (fun _ _ _ h => h) (Or.inl ⟨by rfl, ?hya6⟩) (by assumption) ?resta6
        case hya6 =>
          intro W hSw
          try dsimp only at hSw
          go_simp
          all_goals with_reducible rfl
        try simp only [Act.put, List.setIfInBounds_toArray, List.set_cons_zero, List.set_cons_succ]
        refine wpAnyH_ready (rs := [7]) (by kernel_rfl) (by simp) ?_
        refine AllReadyH.cons (o := { dst := some 24, op := Go.Op.call { callee := Go.Callee.value (Go.Operand.func 43), args := #[Go.Operand.tmp 23], argTypes := #[24] }, type := 3, pos := "outright.go:170", after := #[{ on := 6, ground := Go.Ground.data }], guard := none }) rfl (fun K hK => ?_) AllReadyH.nil
        go_simp
        (go_at_call 43; refine (H43.out _ _).mono ?_; rintro e w' ⟨rfl, hb⟩)
        all_goals (try (go_wp2_with fail))
        refine hK.out _ _ (by exact HKP.out _ _ (by assumption) (Below.mono hb (Below.size (Ext.drew hE.out)))) (fun hHeld2 => ?_)
        clear hK K
        try simp only [Act.put, List.setIfInBounds_toArray, List.set_cons_zero, List.set_cons_succ]
        refine' wpAnyH_take (i := 8) (oi := { dst := some 25, op := Go.Op.binOp Go.BinOp.rem 3 (Go.Operand.tmp 22) (Go.Operand.tmp 24) 3, type := 3, pos := "outright.go:170", after := #[{ on := 5, ground := Go.Ground.data }, { on := 7, ground := Go.Ground.data }], guard := none }) (v := ?va8) rfl (by kernel_rfl) (by kernel_rfl) (by kernel_rfl) (fun _ _ _ h => h) (Or.inl ⟨by rfl, ?hya8⟩) (by assumption) ?resta8
        case hya8 =>
          intro W hSw
          try dsimp only at hSw
          go_simp
          all_goals with_reducible rfl
        try simp only [Act.put, List.setIfInBounds_toArray, List.set_cons_zero, List.set_cons_succ]
        refine' wpAnyH_take (i := 9) (oi := { dst := some 26, op := Go.Op.binOp Go.BinOp.add 3 (Go.Operand.const (Go.Value.int Go.IntKind.i64 1)) (Go.Operand.tmp 25) 3, type := 3, pos := "outright.go:170", after := #[{ on := 8, ground := Go.Ground.data }], guard := none }) (v := ?va9) rfl (by kernel_rfl) (by kernel_rfl) (by kernel_rfl) (fun _ _ _ h => h) (Or.inl ⟨by rfl, ?hya9⟩) (by assumption) ?resta9
        case hya9 =>
          intro W hSw
          try dsimp only at hSw
          go_simp
          all_goals with_reducible rfl
        try simp only [Act.put, List.setIfInBounds_toArray, List.set_cons_zero, List.set_cons_succ]
        have hX1 := (Ext.drew (Ext.refl wr)).trans hb
        have hX2 := hX1.alloc (.cells #[.int .i64 (y : Int)] 3)
        have HO1 := Lib.hid (ownsI_ext hO.out hX1)
        have hsz := Below.size (hE.out.trans hX1)
        refine wpAnyH_ready (rs := [10]) (by kernel_rfl) (by simp) ?_
        refine AllReadyH.cons (o := { dst := some 27, op := Go.Op.buildSlice 22 1 #[(0, Go.Operand.tmp 26)], type := 22, pos := "outright.go:170", after := #[{ on := 9, ground := Go.Ground.data }], guard := none }) rfl (fun K hK => ?_) AllReadyH.nil
        go_simp
        refine hK.out _ _ (HKP.out _ _ (by assumption) ((Below.refl _ _).alloc hsz _)) (fun hHeld3 => ?_)
        clear hK K
        try simp only [Act.put, List.setIfInBounds_toArray, List.set_cons_zero, List.set_cons_succ]
        refine wpAnyH_ready (rs := [11]) (by kernel_rfl) (by simp) ?_
        refine AllReadyH.cons (o := { dst := some 28, op := Go.Op.call { callee := Go.Callee.builtin Go.Builtin.append, args := #[Go.Operand.tmp 17, Go.Operand.tmp 27], argTypes := #[22, 22] }, type := 22, pos := "outright.go:170", after := #[{ on := 0, ground := Go.Ground.data }, { on := 10, ground := Go.Ground.data }, { on := 7, ground := Go.Ground.chain }], guard := none }) rfl (fun K hK => ?_) AllReadyH.nil
        rw [if_pos (by rfl)]
        refine wp_append1 _ W0.heap.size _ _ _ (.tmp 17) (.tmp 27) rfl rfl HO1.out hsz (by rw [ints_length]; exact hol) rfl ?_
        intro v' w3 hO3 hB3
        refine hK.out _ _ (HKP.out _ _ (by assumption) (Below.trans ((Below.refl _ _).alloc hsz _) hB3)) (fun hHeld4 => ?_)
        clear hK K
        try simp only [Act.put, List.setIfInBounds_toArray, List.set_cons_zero, List.set_cons_succ]
        refine' wpAnyH_take (i := 12) (oi := { dst := some 5, op := Go.Op.assign (Go.Operand.tmp 28), type := 22, pos := "outright.go:170", after := #[{ on := 11, ground := Go.Ground.data }, { on := 11, ground := Go.Ground.chain }, { on := 0, ground := Go.Ground.phase }, { on := 1, ground := Go.Ground.phase }, { on := 2, ground := Go.Ground.phase }, { on := 3, ground := Go.Ground.phase }, { on := 4, ground := Go.Ground.phase }, { on := 5, ground := Go.Ground.phase }, { on := 6, ground := Go.Ground.phase }, { on := 7, ground := Go.Ground.phase }, { on := 8, ground := Go.Ground.phase }, { on := 9, ground := Go.Ground.phase }, { on := 10, ground := Go.Ground.phase }, { on := 11, ground := Go.Ground.phase }], guard := none }) (v := ?va12) rfl (by kernel_rfl) (by kernel_rfl) (by kernel_rfl) (fun _ _ _ h => h) (Or.inl ⟨by rfl, ?hya12⟩) (by assumption) ?resta12
        case hya12 =>
          intro W hSw
          try dsimp only at hSw
          go_simp
          all_goals with_reducible rfl
        try simp only [Act.put, List.setIfInBounds_toArray, List.set_cons_zero, List.set_cons_succ]
        refine wpAnyH_done (by kernel_rfl) ?_ _
        refine NoPanic.normal ?_
        have HY := Lib.hid (hHeld4.2.2.2.2.out)
        have HO3 := Lib.hid hO3
        clear hO3 hB3 hX1 hX2 hHeld hHeld2 hHeld3 hHeld4 hb HKP
        go_wp2
        go_roundw
        case rel => exact ⟨i + 1, by omega, by omega, by go_num, HY.out, (by rw [HPS.out]; simpa [ints] using HO3.out : Owns _ _ _ _)⟩
        case measure => simp [RowKit.intOf]; omega
      · have hie : i = 12 := by omega
        have hO2 := hO.out
        rw [hie, ← HNUM.out] at hO2
        have HO2 := Lib.hid hO2
        clear hO2 hie
        go_wp2
        go_ret
        exact ⟨_, rfl, ⟨HO2.out.reads (by rw [HNUM.out]; simp [ints]; omega), HO2.out.capOk⟩, E0.out.trans hE.out⟩
    · have hje : n = i := by omega
      subst hje
      have hO2 := hO.out
      rw [show ns.take n = ns.take 12 from by rw [List.take_of_length_le (show ns.length ≤ n by rw [HN.out]; exact Nat.le_refl _), List.take_of_length_le (show ns.length ≤ 12 by rw [← HN.out]; exact hi12)], ← HNUM.out] at hO2
      have HO2 := Lib.hid hO2
      clear hO2
      go_wp2
      go_ret
      exact ⟨_, rfl, ⟨HO2.out.reads (by rw [HNUM.out]; simp [ints]; omega), HO2.out.capOk⟩, E0.out.trans hE.out⟩
end Go.Proofs.Ytlgdnbpboonhdaa
