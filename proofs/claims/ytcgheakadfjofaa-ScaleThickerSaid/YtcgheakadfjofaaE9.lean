/- Cut. Kind. -/
import Derived.Test.YtcgheakadfjofaaE7
import Derived.Test.YtcgheakadfjofaaD12
import Derived.Test.YtcgheakadfjofaaD1
import Derived.Laws.MakeOwn
import Derived.Laws.CopyOwn
import Derived.Test.YtcgheakadfjofaaE1
namespace Go.Proofs.Ytcgheakadfjofaa
open Go.RowKit Go.Maps Go.Shelf
set_option linter.unusedVariables false
set_option linter.unusedSimpArgs false
attribute [local go_sem] Oper.semAt_some
theorem fld99 (l : Bool) (W : World) (a : Option Addr) (m cap : Nat) : (Instr.field 99 (.agg #[.bool l, .slice a m cap]) 1).run Try.prog W = .ok (.slice a m cap) W := by
  simp [Instr.field, run_underlying Try.underlying99, asAgg, part]
theorem make38 (n : Nat) (h : n ≤ 100000) (w : World) : (Instr.makeSlice 38 (.int .i64 (n : Int)) (.int .i64 (n : Int))).run Try.prog w = .ok (.slice (some ⟨w.heap.size, 0, none⟩) n n) (w.alloc (.cells (madeCells #[.int .i64 0, .int .i64 0] (n * 2)) 29)) := by
  obtain ⟨i0, hi0, hz0, hz1, hz2⟩ := info_parts info29
  have hr := run_make (P := Try.prog) w 38 29 i0 _ Try.underlying38 hi0 hz0 .i64 .i64 n n (by omega) (Int.le_refl _) (by rw [hz2]; omega) (by omega)
  simp only [Int.toNat_natCast, hz1] at hr
  exact hr
theorem run_copy_two (w : World) (ty : TypeId) (g dLen dCap : Nat) (ad : Addr) (sLen sCap m : Nat) (cs : List Value) (hn : m = Nat.min sLen dLen) (hl : cs.length = m * 2)
    (hsrc : ∀ j v, cs[j]? = some v → w.cell? (ad.add j) = some v) (hc : ∀ j, j < cs.length → (w.cell? ⟨g, 0 + j, none⟩).isSome = true) (hf : ∀ j, j < cs.length → w.frozen? ⟨g, 0 + j, none⟩ = false) (h1 : ∀ v ∈ cs, v.oneCell' = true) :
    (Builtin.copy_ #[38, 38] ty #[.slice (some ⟨g, 0, none⟩) dLen dCap, .slice (some ad) sLen sCap]).run Try.prog w = .ok (goInt m) (w.setCells g 0 cs) := by
  obtain ⟨i0, hi0, hz0, hz1, hz2⟩ := info_parts info29
  have hl' := run_loadCells_list (P := Try.prog) w ad cs hsrc
  have hst := run_storeCells_cells (P := Try.prog) g 0 cs 0 w (by simpa using hc) (by simpa using hf) h1
  rw [hl] at hl'
  simp [Builtin.copy_, run_underlying Try.underlying38, Builtin.lenOf, Builtin.firstCells, sizeOf, typeInfo, hi0, hz1, ← hn, hl', hst]
theorem run_copy_zero (w : World) (ty : TypeId) (d a : Option Addr) (dCap sCap : Nat) : (Builtin.copy_ #[38, 38] ty #[.slice d 0 dCap, .slice a 0 sCap]).run Try.prog w = .ok (goInt 0) w := by
  obtain ⟨i0, hi0, hz0, hz1, hz2⟩ := info_parts info29
  have hl : ∀ (x : Addr), (loadCells x 0).run Try.prog w = .ok #[] w := fun x => by simpa using run_loadCells_list (P := Try.prog) w x [] (by simp)
  cases d <;> cases a <;> simp [Builtin.copy_, run_underlying Try.underlying38, Builtin.lenOf, Builtin.firstCells, sizeOf, typeInfo, hi0, storeCells, hl]
theorem wpList_copyLg {ops : Array Oper} {rest : List Oper} {o : Oper} {a : Act} {Q : Exit → Act → World → Prop} (w : World) (hgd : o.guard = none) (d s : Operand) (ho : o.op = .call { callee := .builtin .copy, args := #[d, s], argTypes := #[38, 38] })
    (g m dcap : Nat) (sp : Option Addr) (scap : Nat) (hd : a.eval d = .slice (some ⟨g, 0, none⟩) m dcap) (hs : a.eval s = .slice sp m scap) (cur : Array Value) (hg : w.heap[g]? = some (.cells cur 29 (0, 0))) (hcur : cur.size = m * 2) (ls : List (Int × Int)) (hls : ReadsLg w (.slice sp m scap) ls)
    (h : ∀ w', ReadsLg w' (.slice (some ⟨g, 0, none⟩) m dcap) ls → w.grownBy w' (some g) → wpList Try.prog ops Q rest (a.put o.dst (goInt m)) w') : wpList Try.prog ops Q (o :: rest) a w := by
  refine wpList_plain hgd fun K hK => ?_
  obtain ⟨hll, a', cap', e, hh⟩ := hls
  cases e
  rcases hh with ⟨rfl, rfl⟩ | ⟨b, off, rfl, hc⟩
  · have hrun := run_copy_zero w o.type (some ⟨g, 0, none⟩) none dcap scap
    have hd' : a.eval d = .slice (some ⟨g, 0, none⟩) 0 dcap := hd
    have hs' : a.eval s = .slice none 0 scap := hs
    unfold Oper.wp
    simp [execOp, ho, resolve, invoke, builtin, hd', hs', hrun, Result.andThen]
    exact hK _ _ (h w ⟨by simp, _, _, rfl, .inr ⟨g, 0, rfl, fun i p hi => by simp at hi⟩⟩ ⟨rfl, rfl, rfl, Nat.le_refl _, fun _ _ _ => rfl⟩)
  · have hex : ∀ j, j < (flL ls).length → (w.cell? ⟨g, 0 + j, none⟩).isSome = true := fun j hj => by
      rw [flL_length] at hj
      have : cur[0 + j]? = some (cur[0 + j]'(by omega)) := Array.getElem?_eq_getElem _
      rw [cell_of_blk hg this]; rfl
    have hfr : ∀ j, j < (flL ls).length → w.frozen? ⟨g, 0 + j, none⟩ = false := fun j _ => frozen_of_blk hg _
    have hone : ∀ u ∈ flL ls, u.oneCell' = true := fun u hu => by
      obtain ⟨j, hj, rfl⟩ := List.getElem_of_mem hu
      obtain ⟨i, p, -, ⟨-, e⟩ | ⟨-, e⟩⟩ := flL_inv ls j _ (List.getElem?_eq_getElem hj) <;> rw [e] <;> rfl
    have hrun := run_copy_two w o.type g ls.length dcap ⟨b, off, none⟩ ls.length scap ls.length (flL ls) (Nat.min_self _).symm (flL_length ls) (fun j u hj => by
      rw [addr_add]
      obtain ⟨i, p, e1, ⟨rfl, rfl⟩ | ⟨rfl, rfl⟩⟩ := flL_inv ls j u hj
      · exact (hc i p e1).1
      · exact (hc i p e1).2) hex hfr hone
    have key : ∀ j u, (flL ls)[j]? = some u → (w.setCells g 0 (flL ls)).cell? ⟨g, 0 + j, none⟩ = some u := fun j u hj => by
      obtain ⟨hjl, rfl⟩ := List.getElem?_eq_some_iff.1 hj
      exact World.cell?_setCells_in g (flL ls) 0 w hex j hjl
    unfold Oper.wp
    simp [execOp, ho, resolve, invoke, builtin, hd, hs, hrun, Result.andThen]
    exact hK _ _ (h _ ⟨hll, _, _, rfl, .inr ⟨g, 0, rfl, fun i p hi => ⟨key _ _ (flL_get ls i p hi).1, by have := key _ _ (flL_get ls i p hi).2; rw [Nat.add_assoc]; exact this⟩⟩⟩ (grown_sets _ _ _ _))
/-- What Cut gives: an error, or a best cutting in a list of its own. -/
def CutPost (w : World) (th bd : List Int) (r : Rl) (E : Int) (e : Ending) (w' : World) : Prop :=
  Ext w w' ∧ ((E ≠ 0 ∧ e = .returned (.tuple #[.slice none 0 0, .int .i64 E])) ∨ (E = 0 ∧ ∃ v c, e = .returned (.tuple #[v, .int .i64 0]) ∧ ReadsLg w' v (lgI c) ∧ Cuts (sF th bd r) allB (th.length - 1) 0 c ∧ sumF (sF th bd r) c = bst (sF th bd r) allB (th.length - 1) 0))
set_option maxRecDepth 100000 in
set_option maxHeartbeats 4000000 in
theorem cut28 (vt vb : Value) (th bd : List Int) (r : Rl) (w : World) (ht : Reads w vt th) (hd : Reads w vb bd) :
    Calls Try.prog 28 #[.agg #[vt, vb], r.val] w (CutPost w th bd r (bothE th bd r)) := by
  obtain ⟨hl, a, cap, rfl⟩ := ht.shape
  obtain ⟨n1, hn⟩ : ∃ n, n = th.length := ⟨_, rfl⟩
  rw [← hn] at ht hl ⊢
  have E0 := Lib.hid (Ext.alloc (Ext.alloc (Ext.refl w) (.cells #[.slice a n1 cap, vb] 25)) (.cells #[.int .i64 r.lo, .int .i64 r.hi, .int .i64 r.st, .int .i64 r.tr, .int .i64 r.off, .int .i64 r.dv, .int .i64 r.tn] 27))
  have P0 := Lib.hid ((StemAt.new w (.slice a n1 cap) (vb) 25).ext (Ext.alloc (Ext.refl _) (.cells #[.int .i64 r.lo, .int .i64 r.hi, .int .i64 r.st, .int .i64 r.tr, .int .i64 r.off, .int .i64 r.dv, .int .i64 r.tn] 27)))
  have R0 := RuleAt.new (w.alloc (.cells #[.slice a n1 cap, vb] 25)) r 27
  rw [World.size_alloc] at R0
  have R0 := Lib.hid R0
  have h62 := fun (W : World) (h : Ext w W) => openP62 _ _ _ th bd [] r W (ht.ext h) (hd.ext h) (Reads.nil W)
  rw [placedE_nil] at h62
  have hvw : bothE th bd r = 0 → Vw th bd r ∧ 2 ≤ th.length := fun h => by
    obtain ⟨h1, h2⟩ := bothE_ok.1 h
    exact ⟨h1.weak h2, h1.two⟩
  have HPO := Lib.hid (show ∀ e w', CutPost w th bd r (bothE th bd r) e w' → CutPost w th bd r (bothE th bd r) e w' from fun e w' h => h)
  generalize bothE th bd r = BE at *
  have H62 := Lib.hid h62; have HVW := Lib.hid hvw; have HN := Lib.hid hn
  clear h62 hvw hn ht hd
  have ⟨g1, g2⟩ := P0.out
  have ⟨r0, r1, r2, r3, r4, r5, r6⟩ := R0.out
  go_enter Try.func28, Try.ntmps28
  go_wp2_with fail
  refine (H62.out _ E0.out).mono ?_
  rintro e w1 ⟨⟨hbe, rfl⟩ | ⟨rfl, b, rfl, hyo⟩, hb⟩
  · have hbn : (BE != 0) = true := by simpa using hbe
    have E1 := Lib.hid (E0.out.trans hb)
    have HBE := Lib.hid hbe
    clear g1 g2 r0 r1 r2 r3 r4 r5 r6 hb hbe
    go_wp2
    go_ret2
    exact ⟨E1.out, .inl ⟨HBE.out, rfl⟩⟩
  · have E1 := Lib.hid (E0.out.trans hb)
    obtain ⟨hv, h2⟩ := HVW.out rfl
    have h61 := hv.most
    rw [← HN.out] at h61 h2
    obtain ⟨n, rfl⟩ : ∃ n, n1 = n + 1 := ⟨n1 - 1, by omega⟩
    have HV := Lib.hid hv
    have H65 := Lib.hid (fun (W : World) (h : Ext w1 W) => walk65 n b _ _ th bd r HV.out HN.out.symm W (hyo.at_.ext h))
    have c0 := hyo.at_.cells.1
    obtain ⟨l0, cc, hcut, hcu, hsu⟩ := walk_cut (sF th bd r) n
    have HCC := Lib.hid (show cutK (walkK (sF th bd r) n (n + 1)) n true = cc from by unfold cutK; rw [hcut])
    have HCU := Lib.hid hcu; have HSU := Lib.hid hsu
    have hw1 : IntKind.i64.wrap ((n : Int) + 1 - 1) = (n : Int) := by rw [show (n : Int) + 1 - 1 = n from by omega]; exact wrapi64 _ (by omega) (by omega)
    clear g1 g2 r0 r1 r2 r3 r4 r5 r6 hb hyo hv HVW H62 hcut hcu hsu
    have C0 := Lib.hid c0
    clear c0
    go_wp2
    refine wp_region_order (fun X : World => X.cell? ⟨b, 0, none⟩ = some (.slice a (n + 1) cap) ∧ Hid (Ext w1 X)) [0, 2, 3, 4, 5, 6, 7, 8, 9, 1, 10, 11, 12] (by kernel_rfl) (by kernel_rfl) (by exact ⟨C0.out, Lib.hid (Ext.drew (Ext.refl _))⟩) (fun hHeld => ?_)
    simp only [opsIn, List.filterMap_cons, List.filterMap_nil, List.getElem?_toArray, List.getElem?_cons_succ, List.getElem?_cons_zero]
    refine' text_chunk 6 (by kernel_rfl) hHeld ?ck1 ?cr1
    case ck1 =>
      intro W hSw
      have hSW := hSw
      try dsimp only at hSW
      clear hSw
      simp only [List.take_succ_cons, List.take_zero, List.drop_succ_cons, List.drop_zero]
      repeat (go_big_quiet_step (fail))
      exact wpQuiet_nil rfl
    simp only [List.take_succ_cons, List.take_zero, List.drop_succ_cons, List.drop_zero]
    refine' text_take (by rfl) (by rfl) ?ck2 ?cr2
    case ck2 => (intro W hSw; (try dsimp only at hSw); go_simp; all_goals with_reducible rfl)
    try simp only [Act.put, List.setIfInBounds_toArray, List.set_cons_zero, List.set_cons_succ]
    refine' text_chunk 2 (by kernel_rfl) hHeld ?ck3 ?cr3
    case ck3 =>
      intro W hSw
      have hSW := hSw
      try dsimp only at hSW
      clear hSw
      simp only [List.take_succ_cons, List.take_zero, List.drop_succ_cons, List.drop_zero]
      repeat (go_big_quiet_step (fail))
      exact wpQuiet_nil rfl
    simp only [List.take_succ_cons, List.take_zero, List.drop_succ_cons, List.drop_zero]
    refine text_call (by rfl) (by rfl) (fun K hK => ?_)
    go_simp
    (go_at_call 65; refine (H65.out _ hHeld.2.out).mono ?_; rintro e w3 ⟨M, ⟨rfl, hM, hk3⟩, hb3⟩; obtain ⟨v3, hr3, hl3⟩ := hk3.look1 n true (by omega); obtain ⟨hlen3, a3, cap3, rfl, -⟩ := hr3.shape; obtain ⟨m3, hm3⟩ : ∃ m, m = (lgI (cutK (walkK (sF th bd r) n (n + 1)) n true)).length := ⟨_, rfl⟩; rw [← hm3] at hr3 hl3 hlen3; unfold kv at hl3; have hlk := hl3 w3 (Ext.refl _); generalize flK (walkK (sF th bd r) n (n + 1)) n true = fl3 at *; have hfd := fun (W : World) => fld99 fl3 W a3 m3 cap3; clear hl3 hm3)
    all_goals (try (go_wp2_with fail))
    refine hK.out _ _ (by exact ⟨cell_ext hb3 hHeld.1, Lib.hid (Ext.trans hHeld.2.out hb3)⟩) (fun hHeld => ?_)
    clear hK K
    try simp only [Act.put, List.setIfInBounds_toArray, List.set_cons_zero, List.set_cons_succ]
    refine text_call (by rfl) (by rfl) (fun K hK => ?_)
    go_simp
    all_goals (try (go_wp2_with fail))
    refine hK.out _ _ (by exact hHeld) (fun hHeld => ?_)
    clear hK K
    try simp only [Act.put, List.setIfInBounds_toArray, List.set_cons_zero, List.set_cons_succ]
    refine' text_take (by rfl) (by rfl) ?ck4 ?cr4
    case ck4 => (intro W hSw; (try dsimp only at hSw); go_simp; all_goals with_reducible rfl)
    try simp only [Act.put, List.setIfInBounds_toArray, List.set_cons_zero, List.set_cons_succ]
    refine' text_chunk 1 (by kernel_rfl) hHeld ?ck5 ?cr5
    case ck5 =>
      intro W hSw
      have hSW := hSw
      try dsimp only at hSW
      clear hSw
      simp only [List.take_succ_cons, List.take_zero, List.drop_succ_cons, List.drop_zero]
      repeat (go_big_quiet_step (fail))
      exact wpQuiet_nil rfl
    simp only [List.take_succ_cons, List.take_zero, List.drop_succ_cons, List.drop_zero]
    refine text_done ?_
    have HX := hHeld.2
    have hmk := make38 m3 (by omega)
    have HR3 := Lib.hid hr3
    clear hHeld hlk hr3 hb3 hk3
    have HRX := Lib.hid (HR3.out.1.ext (Ext.alloc (Ext.refl w3) (.cells (madeCells #[.int .i64 0, .int .i64 0] (m3 * 2)) 29)))
    have HGX := Lib.hid (heap_alloc_new w3 (.cells (madeCells #[.int .i64 0, .int .i64 0] (m3 * 2)) 29))
    have HSX := Lib.hid (size_madeCells #[Value.int .i64 0, .int .i64 0] (m3 * 2))
    go_wp2_with (with_reducible refine wpList_copyLg _ rfl (.tmp 34) (.tmp 35) rfl w3.heap.size m3 m3 a3 cap3 rfl rfl _ HGX.out HSX.out _ HRX.out ?_; intro w5 hr5 hg5)
    have HE5 := Lib.hid (grown_new (Ext.alloc (E1.out.trans HX.out) _) hg5 (by have := (E1.out.trans HX.out).size; exact this))
    have HR5 := Lib.hid hr5
    clear hr5 hg5
    go_wp2
    go_ret2
    refine ⟨HE5.out, .inr ⟨by trivial, _, cc, rfl, by rw [← HCC.out]; exact HR5.out, ?_, ?_⟩⟩
    · rw [← HN.out]; exact HCU.out
    · rw [← HN.out]; exact HSU.out
end Go.Proofs.Ytcgheakadfjofaa
namespace Go.Proofs.Ytcgheakadfjofaa
open Go.RowKit Go.Maps Go.Shelf
set_option linter.unusedVariables false
set_option linter.unusedSimpArgs false
attribute [local go_sem] Oper.semAt_some
/-- What Kind gives. -/
def kindE (th bd : List Int) (r : Rl) (p : Int) : Int × Int :=
  if placedE th bd r [p] ≠ 0 then (0, placedE th bd r [p]) else (kindV (sF th bd r) (th.length - 1) p.toNat, 0)
set_option maxRecDepth 100000 in
set_option maxHeartbeats 4000000 in
theorem kind34 (a : Option Addr) (n1 cap : Nat) (vb : Value) (th bd : List Int) (r : Rl) (p : Int) (w : World) (ht : Reads w (.slice a n1 cap) th) (hd : Reads w vb bd) :
    Calls Try.prog 34 #[.agg #[.slice a n1 cap, vb], r.val, .int .i64 p] w fun e w' => e = .returned (.tuple #[.int .i64 (kindE th bd r p).1, .int .i64 (kindE th bd r p).2]) ∧ Ext w w' := by
  have hn : n1 = th.length := by obtain ⟨_, _, _, e, _⟩ := ht; cases e; rfl
  have E0 := Lib.hid (Ext.alloc (Ext.alloc (Ext.refl w) (.cells #[.slice a n1 cap, vb] 25)) (.cells #[.int .i64 r.lo, .int .i64 r.hi, .int .i64 r.st, .int .i64 r.tr, .int .i64 r.off, .int .i64 r.dv, .int .i64 r.tn] 27))
  have P0 := Lib.hid ((StemAt.new w (.slice a n1 cap) (vb) 25).ext (Ext.alloc (Ext.refl _) (.cells #[.int .i64 r.lo, .int .i64 r.hi, .int .i64 r.st, .int .i64 r.tr, .int .i64 r.off, .int .i64 r.dv, .int .i64 r.tn] 27)))
  have R0 := RuleAt.new (w.alloc (.cells #[.slice a n1 cap, vb] 25)) r 27
  rw [World.size_alloc] at R0
  have R0 := Lib.hid R0
  have E3 := Lib.hid (Ext.alloc E0.out (.cells #[.int .i64 p] 3))
  have h62 := fun (W : World) (h : Ext w W) (v3 : Value) (h3 : Reads W v3 [p]) => openP62 _ _ v3 th bd [p] r W (ht.ext h) (hd.ext h) h3
  have H3 := Lib.hid (Reads.new ((w.alloc (.cells #[.slice a n1 cap, vb] 25)).alloc (.cells #[.int .i64 r.lo, .int .i64 r.hi, .int .i64 r.st, .int .i64 r.tr, .int .i64 r.off, .int .i64 r.dv, .int .i64 r.tn] 27)) [p] 3 (w.heap.size + 1 + 1) (by simp) (by simp) _ rfl 1 1 rfl)
  have hok := fun h => placedE_one (th := th) (bd := bd) (r := r) (p := p) h
  have hE := show kindE th bd r p = if placedE th bd r [p] ≠ 0 then (0, placedE th bd r [p]) else (kindV (sF th bd r) (th.length - 1) p.toNat, 0) from rfl
  generalize kindE th bd r p = fe at *
  generalize placedE th bd r [p] = PE at *
  have hvw : bothE th bd r = 0 → Vw th bd r ∧ 2 ≤ th.length := fun h => by
    obtain ⟨h1, h2⟩ := bothE_ok.1 h
    exact ⟨h1.weak h2, h1.two⟩
  have HE := Lib.hid hE; have H62 := Lib.hid h62; have HOK := Lib.hid hok; have HVW := Lib.hid hvw; have HN := Lib.hid hn
  have hl := ht.1
  rw [← hn] at hl
  clear hE h62 hok hvw hn ht hd
  have ⟨g1, g2⟩ := P0.out.ext (Ext.alloc (Ext.refl _) (.cells #[.int .i64 p] 3))
  have ⟨r0, r1, r2, r3, r4, r5, r6⟩ := R0.out.ext (Ext.alloc (Ext.refl _) (.cells #[.int .i64 p] 3))
  have ⟨g1', g2'⟩ := P0.out
  have ⟨r0', r1', r2', r3', r4', r5', r6'⟩ := R0.out
  have PP := Lib.hid (show (((w.alloc (.cells #[.slice a n1 cap, vb] 25)).alloc (.cells #[.int .i64 r.lo, .int .i64 r.hi, .int .i64 r.st, .int .i64 r.tr, .int .i64 r.off, .int .i64 r.dv, .int .i64 r.tn] 27)).alloc (.cells #[.int .i64 p] 3)).cell? ⟨w.heap.size + 1 + 1, 0, none⟩ = some (.int .i64 p) from World.cell?_alloc_at _ _ _ _ (by simp))
  have H3X := Lib.hid (Reads.new (((w.alloc (.cells #[.slice a n1 cap, vb] 25)).alloc (.cells #[.int .i64 r.lo, .int .i64 r.hi, .int .i64 r.st, .int .i64 r.tr, .int .i64 r.off, .int .i64 r.dv, .int .i64 r.tn] 27)).alloc (.cells #[.int .i64 p] 3)) [p] 3 (w.heap.size + 1 + 1 + 1) (by simp) (by simp) _ rfl 1 1 rfl)
  have p0 := PP.out
  go_enter Try.func34, Try.ntmps34
  go_wp2_with fail
  refine (H62.out _ (Ext.alloc E3.out _) _ H3X.out).mono ?_
  rintro e w1 ⟨⟨hbe, rfl⟩ | ⟨rfl, b, rfl, hyo⟩, hb⟩
  · have hbn : (PE != 0) = true := by simpa using hbe
    have E4 := Lib.hid ((Ext.alloc E3.out _).trans hb)
    have hre := Lib.hid (show fe = (0, PE) from by rw [HE.out, if_pos hbe])
    clear g1 g2 r0 r1 r2 r3 r4 r5 r6 g1' g2' r0' r1' r2' r3' r4' r5' r6' hb hbe HE p0
    go_wp2
    go_ret2
    exact ⟨by rw [hre.out]; rfl, E4.out⟩
  · obtain ⟨hb0, hp0, hp1⟩ := HOK.out rfl
    obtain ⟨hv, h2⟩ := HVW.out hb0
    obtain ⟨k, rfl⟩ := Int.eq_ofNat_of_zero_le hp0
    have hre := HE.out
    rw [if_neg (by simp), Int.toNat_natCast] at hre
    have h61 := hv.most
    rw [← HN.out] at hp1 h61 h2 hre
    obtain ⟨n, rfl⟩ : ∃ n, n1 = n + 1 := ⟨n1 - 1, by omega⟩
    rw [Nat.add_sub_cancel] at hre
    have HV := Lib.hid hv
    have hkv := show kindV (sF th bd r) n k = if cutsB (sF th bd r) n k = false then 0 else if bst (sF th bd r) (atB k) n 0 < bst (sF th bd r) allB n 0 then 2 else 1 from rfl
    have k0 := hyo.at_.price (k := 0) (by omega)
    rw [bestP_get (by omega), ← HN.out, Nat.add_sub_cancel] at k0
    have hB0 := bst_M hv HN.out.symm allB 0
    have hB1 := bst_M hv HN.out.symm (atB k) 0
    have H69 := Lib.hid (may69 n b k _ _ th bd r HV.out HN.out.symm w1 hyo.at_ (by omega))
    have p1 := cell_ext hb (cell_ext (Ext.alloc (Ext.refl _) (.cells #[.int .i64 (k : Int)] 3)) PP.out)
    have HP0 := Lib.hid (cell_ext (Ext.alloc (Ext.refl _) (.cells #[.int .i64 (k : Int)] 3)) PP.out)
    have HY := Lib.hid hyo; have HB := Lib.hid hb
    generalize cutsB (sF th bd r) n k = cu at *
    clear g1 g2 r0 r1 r2 r3 r4 r5 r6 g1' g2' r0' r1' r2' r3' r4' r5' r6' hb HE hyo hv HOK HVW H62 H3 H3X p0
    cases cu
    · have HRE := Lib.hid (show fe = (0, 0) from by rw [hre, hkv, if_pos rfl])
      clear hre hkv k0
      go_wp2_with fail
      refine H69.out.mono ?_
      rintro e w2 ⟨rfl, hb2⟩
      have HEE := Lib.hid ((Ext.alloc E3.out _).trans (HB.out.trans hb2))
      clear hb2 p1
      go_wp2
      go_ret2
      exact ⟨by rw [HRE.out]; rfl, HEE.out⟩
    · rw [if_neg (by simp)] at hkv
      obtain ⟨x0, hx0⟩ : ∃ x, x = bst (sF th bd r) allB n 0 := ⟨_, rfl⟩
      obtain ⟨x1, hx1⟩ : ∃ x, x = bst (sF th bd r) (atB k) n 0 := ⟨_, rfl⟩
      rw [← hx0, ← hx1] at hkv
      rw [← hx0] at k0 hB0
      rw [← hx1] at hB1
      have HX1 := Lib.hid hx1
      have K0 := Lib.hid k0
      have HRE0 := Lib.hid (hre.trans (by rw [hkv]) : fe = ((if x1 < x0 then 2 else 1 : Int), 0))
      clear hre hkv hx0 hx1 k0
      go_wp2_with fail
      refine H69.out.mono ?_
      rintro e w2 ⟨rfl, hb2⟩
      have HEE := Lib.hid ((Ext.alloc E3.out _).trans (HB.out.trans hb2))
      have k0 := cell_ext hb2 K0.out
      have p2 := cell_ext hb2 p1
      have HY2 := Lib.hid (HY.out.ext hb2)
      clear hb2 p1
      go_wp2_with fail
      refine (price_kind (sF th bd r) n b k (w.heap.size + 1 + 1) _ vb th bd r _ HV.out rfl HN.out.symm _ _ HY2.out HP0.out).mono ?_
      rintro e w3 ⟨rfl, hy3, hg3⟩
      have k9 := hy3.at_.price (k := 0) (by omega)
      rw [psK_get _ (Nat.le_refl _) (by omega), ← HX1.out] at k9
      have HY3 := Lib.hid hy3.ext0
      clear hy3 hg3 k0 p2
      by_cases hlt : x1 < x0
      · have HRE := HRE0.out
        rw [if_pos hlt] at HRE
        have HRE := Lib.hid HRE
        go_wp2
        go_ret2
        exact ⟨by rw [HRE.out]; rfl, (Ext.alloc E3.out _).trans HY3.out⟩
      · have HRE := HRE0.out
        rw [if_neg hlt] at HRE
        have HRE := Lib.hid HRE
        go_wp2
        go_ret2
        exact ⟨by rw [HRE.out]; rfl, (Ext.alloc E3.out _).trans HY3.out⟩
end Go.Proofs.Ytcgheakadfjofaa
