/- newNet, by its contract. carry, by its contract. send, by its contract. -/
import Derived.Test.YtclcippfodjfeaaN1
import Derived.BigQuiet
namespace Go.Proofs.Ytclcippfodjfeaa
open Go.RowKit Go.Shelf
set_option linter.unusedVariables false
set_option linter.unusedSimpArgs false
attribute [local go_sem] Oper.semAt_some
set_option maxRecDepth 100000 in
set_option maxHeartbeats 2000000 in
theorem newNet52 (w : World) (a : Option Addr) (n cap : Nat) (row : List Int) (hr : Reads w (.slice a n cap) row) (hn : n ≤ 30) :
    Calls Try.prog 52 #[.agg #[.slice a n cap]] w fun e w' => ∃ bn mf, e = .returned (.pointer (some ⟨bn, 0, none⟩)) ∧ NetAt w w' bn a n cap row mf 0 [] zer62 last0 := by
  have hmm := @run_makeMap Try.prog
  have HR := Lib.hid hr; have HLN := Lib.hid hr.len
  clear hr
  go_enter Try.func52, Try.ntmps52
  go_wp2_with (refine wpList_build rfl 80 _ rfl (by kernel_rfl) ?_; generalize hZ : Option.getD _ (#[] : Array Value) = Z; replace hZ := Lib.hid hZ)
  clear hmm
  have hZ2 : Z = (netC (.slice a n cap) (w.heap.size + 1) zer62 last0).toArray := by rw [← hZ.out]; kernel_rfl
  subst hZ2
  go_ret
  have hE1 : Ext w (w.alloc (.cells #[.slice a n cap] 57)) := (Ext.refl w).alloc _
  have hF := FMap.made (w.alloc (.cells #[.slice a n cap] 57))
  have hB := heap_alloc_new ((w.alloc (.cells #[.slice a n cap] 57)).alloc (.map #[] 0)) (.cells (netC (.slice a n cap) (w.heap.size + 1) zer62 last0).toArray 80)
  simp only [World.size_alloc] at hF hB

  exact ⟨_, rfl, w.heap.size + 1, { net := ⟨by simp [zer62], by simp [last0], hB⟩, flow := hF.ext ((Ext.refl _).alloc _), ne := by omega, base := (hE1.alloc _).alloc _, bn0 := by omega, mf0 := by omega, row0 := HR.out, len := HLN.out, le := hn }⟩
end Go.Proofs.Ytclcippfodjfeaa
namespace Go.Proofs.Ytclcippfodjfeaa
open Go.RowKit Go.Shelf
set_option linter.unusedVariables false
set_option linter.unusedSimpArgs false
attribute [local go_sem] Oper.semAt_some
theorem Keep.of_grown {c b : Nat} {A B : World} (hg : A.grownBy B (some b)) (hc : c = 0) : Keep [b] c A B := by
  subst hc
  exact ⟨hg.os, hg.tape, hg.output, hg.size, fun k hk hn => hg.block k hk (fun e => hn (by cases e; simp)), fun _ _ _ _ ho => by omega⟩
set_option maxRecDepth 100000 in
set_option maxHeartbeats 4000000 in
theorem carry65 (w₀ w : World) (bn : Nat) (a : Option Addr) (n cap : Nat) (row : List Int) (mf nf : Nat) (F : List Lk) (far : List Int) (last ps : List Lk)
    (h : NetAt w₀ w bn a n cap row mf nf F far last) (hs : ∀ v, v < 62 → (la last v).1 < 62 ∧ (la last v).2 < 62) (hp : pathF 4000 last 1 = some ps) (hnf : nf + 5000 ≤ 900000) :
    Calls Try.prog 65 #[.pointer (some ⟨bn, 0, none⟩)] w fun e w' => (∃ v, e = .returned v) ∧ (∃ nf', nf' ≤ nf + 4000 ∧ NetAt w₀ w' bn a n cap row mf nf' (ps.foldl tog F) far last) ∧ Keep [mf] 0 w w' := by
  have H := Lib.hid h; have HS := Lib.hid hs; have HP := Lib.hid hp
  have hlt := h.net.lt
  have hmn := h.ne
  have hml := h.flow.lt
  clear h hs hp
  go_enter Try.func65, Try.ntmps65
  go_wp2
  go_loopg [2] 4000 (fun g s wr => ∃ (v nk : Nat) (Fk rest : List Lk), s = .int .i64 (v : Int) ∧ v < 62 ∧ nk + g ≤ nf + 4000 ∧ Hid (pathF g last v = some rest) ∧ Hid (rest.foldl tog Fk = ps.foldl tog F) ∧ Hid (NetAt w₀ wr bn a n cap row mf nk Fk far last) ∧ Hid (Keep [mf] 0 w wr))
  case atStart => exact ⟨1, nf, F, ps, rfl, by omega, by omega, HP, Lib.hid rfl, H, Lib.hid (Keep.refl _ _ _)⟩
  case round =>
    obtain ⟨v, nk, Fk, rest, rfl, hv, hnk, hP, hT, hN, hK⟩ := hrel
    obtain ⟨wk, rfl⟩ : ∃ wk : World, wk = wr := ⟨_, rfl⟩
    by_cases hv0 : v = 0
    · subst hv0
      have hr : rest = [] := by
        have := hP.out
        cases gk with
        | zero => cases this
        | succ g => unfold pathF at this; simpa using this.symm
      subst hr
      have HT := Lib.hid (show Fk = ps.foldl tog F from hT.out)
      go_wp2
      go_end0
      exact ⟨⟨_, rfl⟩, ⟨nk, by omega, by rw [← HT.out]; exact hN.out⟩, hK.out⟩
    · obtain ⟨g', rest', hg, hP', hr⟩ : ∃ g' rest', gk = g' + 1 ∧ pathF g' last (la last v).1 = some rest' ∧ rest = la last v :: rest' := by
        have := hP.out
        cases gk with
        | zero => cases this
        | succ g =>
          unfold pathF at this
          rw [if_neg (by simpa using hv0), Option.map_eq_some_iff] at this
          obtain ⟨r', h1, h2⟩ := this
          exact ⟨g, r', rfl, h1, h2.symm⟩
      subst hg; subst hr
      obtain ⟨s1, s2⟩ := HS.out v hv
      obtain ⟨⟨i, j⟩, hl⟩ : ∃ l, l = la last v := ⟨_, rfl⟩
      rw [← hl] at s1 s2 hP'
      have hT2 : rest'.foldl tog (tog Fk (i, j)) = ps.foldl tog F := by rw [hl]; exact hT.out
      dsimp only at s1 s2 hP'
      have n1 := hN.out.net.last1 hv; have n2 := hN.out.net.last2 hv
      rw [← hl, Nat.mul_comm 2 v] at n1 n2
      dsimp only at n1 n2
      have n3 := hN.out.net.flow
      have v0 : (0 : Int) ≤ (v : Int) := by omega
      have v1 : (v : Int) < 62 := by omega
      have v2 : decide ((v : Int) = 0) = false := decide_eq_false (by omega)
      have v3 : ¬ (v : Int) = 0 := by omega
      have wlt := hN.out.net.lt
      have mlt := hN.out.flow.lt
      obtain ⟨w1, hw1⟩ : ∃ w1, w1 = wk.alloc (.cells #[.int .i64 (i : Int), .int .i64 (j : Int)] 77) := ⟨_, rfl⟩
      have hE1 : Ext wk w1 := by rw [hw1]; exact (Ext.refl wk).alloc _
      have hN1 := Lib.hid (hN.out.ext hE1)
      have c1 : w1.cell? ⟨wk.heap.size, 0, none⟩ = some (.int .i64 (i : Int)) := by rw [hw1]; exact World.cell?_alloc_at _ _ _ _ rfl
      have c2 : w1.cell? ⟨wk.heap.size, 1, none⟩ = some (.int .i64 (j : Int)) := by rw [hw1]; exact World.cell?_alloc_at _ _ _ _ rfl
      have c3 := cell_ext hE1 n3
      have c4 := cell_ext hE1 n1
      have HE1 := Lib.hid hE1; have HP2 := Lib.hid hP'; have HT2 := Lib.hid hT2
      have hz1 : w1.heap.size = wk.heap.size + 1 := by rw [hw1]; simp
      have hsm : Sm (turn (i, j)) := ⟨show j < 1000 by omega, show i < 1000 by omega⟩
      have hsm2 : Sm (i, j) := ⟨show i < 1000 by omega, show j < 1000 by omega⟩
      have HSM := Lib.hid hsm; have HSM2 := Lib.hid hsm2
      obtain ⟨fl, hfl⟩ : ∃ fl, fl = inF Fk (turn (i, j)) := ⟨_, rfl⟩
      have HFL := Lib.hid hfl
      clear hfl hE1 hP' hT2 hsm hsm2 hP hT hl
      go_upto_region 4 with fail
      rw [← hw1]
      clear hw1 n1 n2 n3
      refine wp_region_order (fun X : World => X.cell? ⟨bn, 1, none⟩ = some (.map (some mf)) ∧ X.cell? ⟨wk.heap.size, 0, none⟩ = some (.int .i64 (i : Int)) ∧ X.cell? ⟨wk.heap.size, 1, none⟩ = some (.int .i64 (j : Int)) ∧ Hid (Ext w1 X)) [0, 1, 2, 3, 4, 5, 6] (by kernel_rfl) (by kernel_rfl) (by exact ⟨c3, c1, c2, Lib.hid (Ext.refl _).drew⟩) (fun hHeld => ?_)
      simp only [opsIn, List.filterMap_cons, List.filterMap_nil, List.getElem?_toArray, List.getElem?_cons_succ, List.getElem?_cons_zero]
      refine' text_chunk 5 (by kernel_rfl) hHeld ?ck1 ?cr1
      case ck1 =>
        intro W hSw
        have hSW := hSw
        try dsimp only at hSW
        clear hSw
        simp only [List.take_succ_cons, List.take_zero, List.drop_succ_cons, List.drop_zero]
        repeat (go_big_quiet_step (fail))
        exact wpQuiet_nil rfl
      simp only [List.take_succ_cons, List.take_zero, List.drop_succ_cons, List.drop_zero]
      refine text_call (by rfl) (by rfl) (fun K hK => ?_)
      go_simp
      go_at_call 85
      refine (turned85 (i, j) _).mono ?_
      rintro e w5 ⟨rfl, hb5⟩
      have HB5 := Lib.hid hb5; clear hb5
      dsimp only [turn]
      all_goals (try (go_wp2_with fail))
      refine hK.out _ _ (by exact ⟨cell_ext HB5.out hHeld.1, cell_ext HB5.out hHeld.2.1, cell_ext HB5.out hHeld.2.2.1, Lib.hid (hHeld.2.2.2.out.trans HB5.out)⟩) (fun hHeld => ?_)
      clear hK K
      try simp only [Act.put, List.setIfInBounds_toArray, List.set_cons_zero, List.set_cons_succ]
      have hL : (Instr.lookup 73 (.map (some mf)) (.agg #[.int .i64 (j : Int), .int .i64 (i : Int)]) false).run Try.prog w5 = .ok (.bool fl) w5 := by
        have := (hN1.out.flow.ext hHeld.2.2.2.out).look (turn (i, j)) HSM.out
        rw [← HFL.out] at this
        exact this
      refine text_call (by rfl) (by rfl) (fun K hK => ?_)
      go_simp
      refine hK.out _ _ (by exact hHeld) (fun hHeld => ?_)
      clear hK K hL
      try simp only [Act.put, List.setIfInBounds_toArray, List.set_cons_zero, List.set_cons_succ]
      refine text_done ?_
      have HE5 := Lib.hid (hHeld.2.2.2.out)
      have d1 := hHeld.2.1; have d2 := hHeld.2.2.1; have d3 := hHeld.1
      have d4 := cell_ext HE5.out c4
      have hsz5 := HE5.out.size
      have hN5 := Lib.hid (hN1.out.ext HE5.out)
      clear hHeld c1 c2 c3 c4 HB5
      have HKW := Lib.hid hK.out
      cases fl
      · have HT3 := Lib.hid (show rest'.foldl tog ((i, j) :: Fk) = ps.foldl tog F from by have := HT2.out; unfold tog at this; rw [← HFL.out] at this; exact this)
        obtain ⟨wm, hrun, hfm, hmt⟩ := (hN5.out.ext (Ext.refl w5).drew).flow.put (by omega) (i, j) HSM2.out
        have hkm := Keep.of_grown (c := 0) hmt.grown rfl
        have HNM := Lib.hid ((hN5.out.ext (Ext.refl w5).drew).flowed hkm hfm)
        have HKM := Lib.hid (hK.out.trans ((Keep.ext (rs := [mf]) (c := 0) (HE1.out.trans (HE5.out.trans (Ext.refl w5).drew))).trans hkm))
        have e1 := hkm.cell (by simp; omega) (show w5.drew.cell? ⟨bn, 1, none⟩ = some (.map (some mf)) from d3)
        have e2 := hkm.cell (by simp; omega) (show w5.drew.cell? ⟨wk.heap.size, 0, none⟩ = some (.int .i64 (i : Int)) from d1)
        have e3 := hkm.cell (by simp; omega) (show w5.drew.cell? ⟨wk.heap.size, 1, none⟩ = some (.int .i64 (j : Int)) from d2)
        have e4 := hkm.cell (by simp; omega) (show w5.drew.cell? ⟨bn, 64 + v * 2, none⟩ = some (.int .i64 (i : Int)) from d4)
        have HKK := Lib.hid hkm
        clear hkm hfm hmt
        dsimp only [kv] at hrun
        go_upto_region 6 with fail
        refine wp_region_order (fun X : World => X.cell? ⟨bn, 1, none⟩ = some (.map (some mf)) ∧ X.cell? ⟨wk.heap.size, 0, none⟩ = some (.int .i64 (i : Int)) ∧ X.cell? ⟨wk.heap.size, 1, none⟩ = some (.int .i64 (j : Int))) [0, 1, 2, 3, 4, 5] (by kernel_rfl) (by kernel_rfl) (by exact ⟨d3, d1, d2⟩) (fun hHeld => ?_)
        simp only [opsIn, List.filterMap_cons, List.filterMap_nil, List.getElem?_toArray, List.getElem?_cons_succ, List.getElem?_cons_zero]
        refine' text_chunk 5 (by kernel_rfl) hHeld ?ck2 ?cr2
        case ck2 =>
          intro W hSw
          have hSW := hSw
          try dsimp only at hSW
          clear hSw
          simp only [List.take_succ_cons, List.take_zero, List.drop_succ_cons, List.drop_zero]
          repeat (go_big_quiet_step (fail))
          exact wpQuiet_nil rfl
        simp only [List.take_succ_cons, List.take_zero, List.drop_succ_cons, List.drop_zero]
        refine text_call (by rfl) (by rfl) (fun K hK => ?_)
        go_simp
        refine hK.out _ _ (by exact ⟨e1, e2, e3⟩) (fun hHeld => ?_)
        clear hK K hrun
        try simp only [Act.put, List.setIfInBounds_toArray, List.set_cons_zero, List.set_cons_succ]
        refine text_done ?_
        clear hHeld d1 d2 d3 d4
        go_wp2
        go_roundg g'
        case measure => omega
        case rel =>
          refine ⟨i, _, _, rest', by rfl, s1, ?_, HP2.out, HT3.out, HNM.out, HKM.out⟩
          omega
      · have HT3 := Lib.hid (show rest'.foldl tog (Fk.filter fun x => !(x.1 == (turn (i, j)).1 && x.2 == (turn (i, j)).2)) = ps.foldl tog F from by have := HT2.out; unfold tog at this; rw [← HFL.out] at this; exact this)
        go_upto_region 5 with fail
        refine wp_region_order (fun X : World => X.cell? ⟨bn, 1, none⟩ = some (.map (some mf)) ∧ X.cell? ⟨wk.heap.size, 0, none⟩ = some (.int .i64 (i : Int)) ∧ X.cell? ⟨wk.heap.size, 1, none⟩ = some (.int .i64 (j : Int))) [0, 1, 2, 3, 4, 5, 6] (by kernel_rfl) (by kernel_rfl) (by exact ⟨d3, d1, d2⟩) (fun hHeld => ?_)
        simp only [opsIn, List.filterMap_cons, List.filterMap_nil, List.getElem?_toArray, List.getElem?_cons_succ, List.getElem?_cons_zero]
        refine' text_chunk 5 (by kernel_rfl) hHeld ?ck3 ?cr3
        case ck3 =>
          intro W hSw
          have hSW := hSw
          try dsimp only at hSW
          clear hSw
          simp only [List.take_succ_cons, List.take_zero, List.drop_succ_cons, List.drop_zero]
          repeat (go_big_quiet_step (fail))
          exact wpQuiet_nil rfl
        simp only [List.take_succ_cons, List.take_zero, List.drop_succ_cons, List.drop_zero]
        refine text_call (by rfl) (by rfl) (fun K hK => ?_)
        go_simp
        go_at_call 85
        refine (turned85 (i, j) _).mono ?_
        rintro e w6 ⟨rfl, hb6⟩
        have HB6 := Lib.hid hb6; clear hb6
        dsimp only [turn]
        all_goals (try (go_wp2_with fail))
        refine hK.out _ _ (by exact ⟨cell_ext HB6.out hHeld.1, cell_ext HB6.out hHeld.2.1, cell_ext HB6.out hHeld.2.2⟩) (fun hHeld => ?_)
        clear hK K
        try simp only [Act.put, List.setIfInBounds_toArray, List.set_cons_zero, List.set_cons_succ]
        have HE6 := Lib.hid ((Ext.refl w5).drew.trans HB6.out)
        obtain ⟨wm, hrun, hfm, hmt⟩ := (hN5.out.ext HE6.out).flow.del (turn (i, j)) HSM.out 0
        have hsz6 := HE6.out.size
        have hkm := Keep.of_grown (c := 0) hmt.grown rfl
        have HNM := Lib.hid ((hN5.out.ext HE6.out).flowed hkm hfm)
        have HKM := Lib.hid (HKW.out.trans ((Keep.ext (rs := [mf]) (c := 0) (HE1.out.trans (HE5.out.trans HE6.out))).trans hkm))
        have e1 := hkm.cell (by simp; omega) hHeld.1
        have e2 := hkm.cell (by simp; omega) hHeld.2.1
        have e3 := hkm.cell (by simp; omega) hHeld.2.2
        have e4 := hkm.cell (by simp; omega) (cell_ext HE6.out d4)
        clear hkm hfm hmt
        dsimp only [kv, turn] at hrun
        clear HB6
        refine text_call (by rfl) (by rfl) (fun K hK => ?_)
        go_simp
        refine hK.out _ _ (by exact ⟨e1, e2, e3⟩) (fun hHeld => ?_)
        clear hK K hrun
        try simp only [Act.put, List.setIfInBounds_toArray, List.set_cons_zero, List.set_cons_succ]
        refine text_done ?_
        clear hHeld d1 d2 d3 d4
        go_wp2
        go_roundg g'
        case measure => omega
        case rel =>
          refine ⟨i, _, _, rest', by rfl, s1, ?_, HP2.out, HT3.out, HNM.out, HKM.out⟩
          omega
end Go.Proofs.Ytclcippfodjfeaa
namespace Go.Proofs.Ytclcippfodjfeaa
open Go.RowKit Go.Shelf
set_option linter.unusedVariables false
set_option linter.unusedSimpArgs false
theorem appendI_run (w : World) (B : Nat) (xs : List Int) (x : Int) (v : Value) (hown : OwnI 3 B w v xs) (hB : B ≤ w.heap.size) (hl : xs.length ≤ 5000) (b : Nat) (hx : w.cell? ⟨b, 0, none⟩ = some (.int .i64 x)) (ty : TypeId) :
    ∃ v' w', (Builtin.append_ #[23, 23] ty #[v, .slice (some ⟨b, 0, none⟩) 1 1]).run Try.prog w = .ok v' w' ∧ OwnI 3 B w' v' (xs ++ [x]) ∧ Below B w w' := by
  obtain ⟨i0, hi0, hz0, hz1, hz2⟩ := info_parts Try.info3
  obtain ⟨v', w', hrun, r1, r2, _⟩ := run_append_own (P := Try.prog) w B 23 ty 3 i0 (.int .i64 0) 1 8 Try.underlying23 hi0 hz0 hz1 hz2 rfl (by decide) v _ _ hown ⟨b, 0, none⟩ 1 1 [.int .i64 x] rfl (fun j u hj => by
    match j, hj with
    | 0, hj => simp at hj; subst hj; rw [addr_add]; exact hx) (fun u hu => by simp at hu; subst hu; rfl) (by unfold maxLen; omega) (by omega) hB
  refine ⟨v', w', hrun, ?_, ?_⟩
  · unfold OwnI; simpa using r1
  · exact (Below.refl B w).grown r2 (by omega) fun k hk => (hown.lt k hk).1
theorem oper_append {o : Oper} {a : Act} {K : Act → World → Prop} {Q : Exit → Act → World → Prop} {w w' : World} {v x v' : Value} (s u : Operand) (ho : o.op = .call { callee := .builtin .append, args := #[s, u], argTypes := #[23, 23] }) (hs : a.eval s = v) (hu : a.eval u = x)
    (hrun : (Builtin.append_ #[23, 23] o.type #[v, x]).run Try.prog w = .ok v' w') (h : K (a.put o.dst v') w') : Oper.wp Try.prog o a w K Q := by
  unfold Oper.wp
  simp [execOp, ho, resolve, invoke, builtin, hs, hu, hrun, Result.andThen]
  exact h
theorem OwnI.keep {e : TypeId} {B : Nat} {w w' : World} {v : Value} {xs : List Int} {rs : List Nat} {c : Nat} (h : OwnI e B w v xs) (hk : Keep rs c w w') (hrs : ∀ r ∈ rs, r < B) : OwnI e B w' v xs := by
  obtain ⟨h1, h2⟩ := h
  refine ⟨h1, h2.imp id ?_⟩
  rintro ⟨g, cap, cur, rfl, hgb, hh, r⟩
  exact ⟨g, cap, cur, rfl, hgb, hk.blk (fun hm => by have := hrs g hm; omega) hh, r⟩
theorem Keep.weak {rs rs' : List Nat} {c : Nat} {A B : World} (h : Keep rs c A B) (hs : ∀ r ∈ rs, r ∈ rs') : Keep rs' 0 A B := ⟨h.os, h.tape, h.output, h.size, fun k hk hn => h.block k hk (fun hm => hn (hs k hm)), fun _ _ _ _ ho => by omega⟩
theorem Keep.below {rs : List Nat} {A B : World} {b : Nat} (h : Below b A B) (hs : b ≤ A.heap.size) : ∀ {w₀ : World}, Keep rs 0 w₀ A → w₀.heap.size ≤ b → Keep rs 0 w₀ B := fun {w₀} hk hb =>
  ⟨h.os.trans hk.os, h.tape.trans hk.tape, h.output.trans hk.output, Nat.le_trans hk.size h.size, fun k hkl hn => (h.block k (by omega)).trans (hk.block k hkl hn), fun _ _ _ _ ho => by omega⟩
theorem NetAt.belowB {w₀ W W' : World} {bn : Nat} {a : Option Addr} {n cap : Nat} {row : List Int} {mf nf : Nat} {F : List Lk} {far : List Int} {last : List Lk} {B : Nat} (h : NetAt w₀ W bn a n cap row mf nf F far last) (hb : Below B W W') (h1 : bn < B) (h2 : mf < B) (h3 : w₀.heap.size ≤ B) : NetAt w₀ W' bn a n cap row mf nf F far last :=
  { h with net := h.net.same (hb.block bn h1), flow := h.flow.same (hb.block mf h2), base := ⟨hb.os.trans h.base.os, hb.tape.trans h.base.tape, hb.output.trans h.base.output, Nat.le_trans h.base.size hb.size, fun k hk => (hb.block k (by omega)).trans (h.base.block k hk)⟩ }
/-- The last links lead from and to spots. -/
def LB (last : List Lk) : Prop := ∀ v, (la last v).1 < 62 ∧ (la last v).2 < 62
theorem LB.zero : LB last0 := fun v => by
  unfold la last0
  rw [List.getD_eq_getElem?_getD, List.getElem?_replicate]
  split <;> simp
theorem LB.upd {rd : List Int} {st : St} {s : Lk × Int} (h : LB st.2) (hs : s.1.1 < 62 ∧ s.1.2 < 62) : LB (upd rd st s).2 := by
  unfold Ytclcippfodjfeaa.upd
  split
  · intro v
    dsimp only
    by_cases hi : s.1.2 < st.2.length
    · rw [la_set _ _ _ _ hi]; split
      · exact hs
      · exact h v
    · rw [List.set_eq_of_length_le (by omega)]; exact h v
  · exact h
theorem LB.fold {rd : List Int} : ∀ (l : List (Lk × Int)) {st : St}, LB st.2 → (∀ s ∈ l, s.1.1 < 62 ∧ s.1.2 < 62) → LB (l.foldl (Ytclcippfodjfeaa.upd rd) st).2
  | [], _, h, _ => h
  | s :: l, st, h, hs => LB.fold l (h.upd (hs s (by simp))) (fun x hx => hs x (by simp [hx]))
theorem LB.meas {ss : List (Lk × Int)} (hs : ∀ s ∈ ss, s.1.1 < 62 ∧ s.1.2 < 62) : ∀ (k : Nat) {st res : St}, LB st.2 → measF ss k st = some res → LB res.2
  | 0, _, _, _, h => by cases h
  | k + 1, st, res, hl, h => by
    unfold measF at h
    split at h
    · cases h; exact LB.fold ss hl hs
    · exact LB.meas hs k (LB.fold ss hl hs) h
attribute [local go_sem] Oper.semAt_some
set_option maxRecDepth 100000 in
set_option maxHeartbeats 4000000 in
theorem send53 (w₀ w : World) (bn : Nat) (a : Option Addr) (n cap : Nat) (row : List Int) (mf nf : Nat) (F : List Lk) (far : List Int) (last : List Lk) (k many : Nat) (p : Nat → Int)
    (h : NetAt w₀ w bn a n cap row mf nf F far last) (hF : Flow row F k) (hp : Pot (stepsL row F) p) (hB : ∀ v, p v ≤ 31) (hlb : LB last) (hm : many ≤ 30) (hnf : nf ≤ 1000) :
    Calls Try.prog 53 #[.pointer (some ⟨bn, 0, none⟩), .int .i64 (many : Int)] w fun e w' => ∃ more F' la' far' v nf', sendF row many F last = some (more, F', la') ∧ e = .returned v ∧ OwnI 3 w.heap.size w' v more ∧ more.length ≤ many ∧ NetAt w₀ w' bn a n cap row mf nf' F' far' la' ∧ LB la' ∧ Keep [bn, mf] 0 w w' := by
  have hlt := h.net.lt
  have hmn := h.ne
  have hml := h.flow.lt
  have hwb := h.base.size
  have hrow : row.length ≤ 30 := by rw [← h.len]; exact h.le
  have H := Lib.hid h; have HI := Lib.hid (show ∃ kf p, Flow row F kf ∧ Pot (stepsL row F) p ∧ ∀ v, p v ≤ 31 from ⟨k, p, hF, hp, hB⟩); have HL := Lib.hid hlb
  have HRW := Lib.hid hrow
  clear h hF hp hB hlb hrow
  go_enter Try.func53, Try.ntmps53
  go_wp2
  go_loopg [5, 7] many (fun g v i wr => ∃ (kk nk : Nat) (Fk lk : List Lk) (fk acc : List Int), kk + g = many ∧ i = .int .i64 (kk : Int) ∧ acc.length = kk ∧ nk + 4000 * g ≤ nf + 4000 * many ∧ Hid (OwnI 3 w.heap.size wr v acc) ∧ Hid (NetAt w₀ wr bn a n cap row mf nk Fk fk lk) ∧ Hid (∃ kf p, Flow row Fk kf ∧ Pot (stepsL row Fk) p ∧ ∀ v, p v ≤ 31) ∧ Hid (∀ rest F' la', sendF row g Fk lk = some (rest, F', la') → sendF row many F last = some (acc ++ rest, F', la')) ∧ Hid (LB lk) ∧ Hid (Keep [bn, mf] 0 w wr))
  case atStart => exact ⟨0, nf, F, last, far, [], by omega, rfl, rfl, by omega, OwnI.nil _ _ _, H, HI, (fun rest F' la' h => h), HL, Keep.refl _ _ _⟩
  case round =>
    obtain ⟨kk, nk, Fk, lk, fk, acc, hkg, rfl, hacc, hnk, hO, hN, hI, hS, hL, hK⟩ := hrel
    obtain ⟨wk, rfl⟩ : ∃ wk : World, wk = wr := ⟨_, rfl⟩
    have k0 : (0 : Int) ≤ (kk : Int) := by omega
    have hks := hK.out.size
    by_cases hlt2 : kk < many
    · have hd1 : decide ((kk : Int) < (many : Int)) = true := decide_eq_true (by omega)
      obtain ⟨g', rfl⟩ : ∃ g', gk = g' + 1 := ⟨gk - 1, by omega⟩
      obtain ⟨kf, p, hF, hp, hB⟩ := hI.out
      obtain ⟨st, hms, hdn⟩ := meas_ok (F := Fk) HRW.out hN.out.net.l2 hp hB
      have C64 := Lib.hid (measure64 w₀ wk bn a n cap row mf nk Fk fk lk p st hN.out hp hB hms)
      have hL2 := LB.meas (fun s hs => steps_lt HRW.out s hs) 2000 hL.out hms
      have HMS := Lib.hid hms; have HDN := Lib.hid hdn; have HL2 := Lib.hid hL2; have HF := Lib.hid hF; have HBB := Lib.hid hB
      clear hms hdn hL2 hF hp hB
      go_wp2_with fail
      refine C64.out.mono ?_
      rintro e w2 ⟨⟨ve, rfl⟩, hN2, hK2⟩
      have HN2 := Lib.hid hN2; have HK2 := Lib.hid (hK2.weak (rs' := [bn, mf]) (by simp)); have HO2 := Lib.hid (hO.out.keep hK2 (by simp; omega))
      have f0 := hN2.net.farAt (i := 0) (by omega); have f1 := hN2.net.farAt (i := 1) (by omega)
      have hsz2 := hK2.size
      have hz := HDN.out.z
      rw [Nat.add_zero, hz] at f0
      have b1 : 0 ≤ fa st.1 1 ∧ fa st.1 1 ≤ 31 := by
        have h1 := HDN.out.bd 1; have h2 := HBB.out 1
        rcases h1 with h1 | h1 <;> omega
      obtain ⟨y, hy⟩ : ∃ y, y = fa st.1 1 := ⟨_, rfl⟩
      rw [← hy] at f1 b1
      have HY := Lib.hid hy; have HZ := Lib.hid hz
      clear hN2 hK2 C64 hy hz
      obtain ⟨b1a, b1b⟩ := b1
      by_cases he : y = 1
      · subst he
        have HSN := Lib.hid (show sendF row many F last = some (acc, Fk, st.2) from by
          have := hS.out [] Fk st.2 (by unfold sendF; rw [HMS.out]; simp [← HY.out, HZ.out])
          simpa using this)
        go_upto_region 5 with fail
        go_quiet (fail)
        go_wp2
        go_ret
        exact ⟨acc, Fk, st.2, st.1, u5, nk, HSN.out, rfl, HO2.out.ext ((Ext.refl w2).drewN _), by omega, HN2.out.ext ((Ext.refl w2).drewN _), HL2.out, (hK.out.trans HK2.out).trans (Keep.ext ((Ext.refl w2).drewN _))⟩
      · have hd2 : decide (y = 1) = false := decide_eq_false he
        obtain ⟨ps, hps, hF2, hP2, -⟩ := flow_next HF.out HDN.out (by rw [← HY.out, HZ.out]; exact he)
        have HI2 := Lib.hid (show ∃ kf p, Flow row (ps.foldl tog Fk) kf ∧ Pot (stepsL row (ps.foldl tog Fk)) p ∧ ∀ v, p v ≤ 31 from ⟨_, _, hF2, hP2, fun v => by
          rcases HDN.out.bd v with h | h
          · omega
          · have := HBB.out v; omega⟩)
        have HS2 := Lib.hid (show ∀ rest F' la', sendF row g' (ps.foldl tog Fk) st.2 = some (rest, F', la') → sendF row many F last = some ((acc ++ [y - 1]) ++ rest, F', la') from fun rest F' la' hr => by
          have := hS.out ((y - 1) :: rest) F' la' (by
            unfold sendF
            rw [HMS.out]
            simp only [Option.bind_some]
            rw [if_neg (by rw [← HY.out, HZ.out]; simpa using he), hps]
            simp only [Option.bind_some]
            rw [hr, ← HY.out, HZ.out]; rfl)
          rw [this]; simp)
        have HPS := Lib.hid hps
        clear hps hF2 hP2
        go_upto_region 5 with fail
        go_quiet (fail)
        generalize hgw : World.drewN w2 _ = W
        have hEW : Ext w2 W := by rw [← hgw]; exact (Ext.refl w2).drewN _
        clear hgw
        have g0 := cell_ext hEW f0; have g1 := cell_ext hEW f1
        have HOW := Lib.hid (HO2.out.ext hEW); have HNW := Lib.hid (HN2.out.ext hEW); have HKW := Lib.hid ((hK.out.trans HK2.out).trans (Keep.ext hEW))
        have hszw := hEW.size
        clear f0 f1 hEW
        go_upto_region 6 with fail
        refine wp_region_order (fun X : World => X.cell? ⟨bn, 2 + 1, none⟩ = some (.int .i64 y) ∧ X.cell? ⟨bn, 2, none⟩ = some (.int .i64 1)) [0, 1, 2, 3, 4, 5, 6, 7, 8, 9, 10, 11, 12, 13, 14] (by kernel_rfl) (by kernel_rfl) (by exact ⟨g1, g0⟩) (fun hHeld => ?_)
        simp only [opsIn, List.filterMap_cons, List.filterMap_nil, List.getElem?_toArray, List.getElem?_cons_succ, List.getElem?_cons_zero]
        refine' text_chunk 12 (by kernel_rfl) hHeld ?ck1 ?cr1
        case ck1 =>
          intro W hSw
          have hSW := hSw
          try dsimp only at hSW
          clear hSw
          simp only [List.take_succ_cons, List.take_zero, List.drop_succ_cons, List.drop_zero]
          repeat (go_big_quiet_step (fail))
          exact wpQuiet_nil rfl
        simp only [List.take_succ_cons, List.take_zero, List.drop_succ_cons, List.drop_zero]
        refine text_call (by rfl) (by rfl) (fun K hK => ?_)
        go_simp
        all_goals (try (go_wp2_with fail))
        have hEa : Ext W (W.alloc (.cells #[.int .i64 (y - 1)] 3)).drew := ((Ext.refl W).alloc _).drew
        refine hK.out _ _ (by exact ⟨cell_ext hEa g1, cell_ext hEa g0⟩) (fun hHeld => ?_)
        clear hK K
        try simp only [Act.put, List.setIfInBounds_toArray, List.set_cons_zero, List.set_cons_succ]
        obtain ⟨v6, w6, hrun, hO6, hB6⟩ := appendI_run (W.alloc (.cells #[.int .i64 (y - 1)] 3)).drew w.heap.size acc (y - 1) u5 (HOW.out.ext hEa) (by simp; omega) (by omega) W.heap.size (World.cell?_alloc_at _ _ _ _ rfl) 23
        have HO6 := Lib.hid hO6; have HB6 := Lib.hid hB6
        have HN6 := Lib.hid ((HNW.out.ext hEa).belowB hB6 (by omega) (by omega) hwb)
        have HK6 := Lib.hid (Keep.below hB6 (by simp; omega) (HKW.out.trans (Keep.ext hEa)) (Nat.le_refl _))
        have g2 : w6.cell? ⟨bn, 2 + 1, none⟩ = some (.int .i64 y) := by rw [hB6.cell (p := ⟨bn, 2 + 1, none⟩) (by show bn < _; omega)]; exact cell_ext hEa g1
        have g3 : w6.cell? ⟨bn, 2, none⟩ = some (.int .i64 1) := by rw [hB6.cell (p := ⟨bn, 2, none⟩) (by show bn < _; omega)]; exact cell_ext hEa g0
        clear hO6 hB6 hEa
        refine text_call (by rfl) (by rfl) (fun K hK => ?_)
        refine oper_append _ _ rfl rfl rfl hrun ?_
        refine hK.out _ _ (by exact ⟨g2, g3⟩) (fun hHeld => ?_)
        clear hK K hrun
        try simp only [Act.put, List.setIfInBounds_toArray, List.set_cons_zero, List.set_cons_succ]
        refine' text_chunk 1 (by kernel_rfl) hHeld ?ck2 ?cr2
        case ck2 =>
          intro W hSw
          have hSW := hSw
          try dsimp only at hSW
          clear hSw
          simp only [List.take_succ_cons, List.take_zero, List.drop_succ_cons, List.drop_zero]
          repeat (go_big_quiet_step (fail))
          exact wpQuiet_nil rfl
        simp only [List.take_succ_cons, List.take_zero, List.drop_succ_cons, List.drop_zero]
        refine text_done ?_
        clear hHeld g0 g1 g2 g3
        have hsz6 := HB6.out.size
        go_wp2_with fail
        refine (carry65 w₀ w6 bn a n cap row mf nk Fk st.1 st.2 ps HN6.out (fun v _ => HL2.out v) HPS.out (by omega)).mono ?_
        rintro e w7 ⟨⟨ve7, rfl⟩, ⟨nf7, hnf7, hN7⟩, hK7⟩
        have HN7 := Lib.hid hN7; have HK7 := Lib.hid (HK6.out.trans (hK7.weak (rs' := [bn, mf]) (by simp))); have HO7 := Lib.hid (HO6.out.keep hK7 (by simp; omega))
        clear hN7 hK7
        go_wp2
        go_roundg g'
        case measure => omega
        case rel => exact ⟨kk + 1, nf7, ps.foldl tog Fk, st.2, st.1, acc ++ [y - 1], by omega, by go_num, by simp [hacc], by omega, HO7.out, HN7.out, HI2.out, HS2.out, HL2.out, HK7.out⟩
    · have hd1 : decide ((kk : Int) < (many : Int)) = false := decide_eq_false (by omega)
      obtain rfl : kk = many := by omega
      obtain rfl : gk = 0 := by omega
      have HSN := Lib.hid (show sendF row kk F last = some (acc, Fk, lk) from by have := hS.out [] Fk lk rfl; simpa using this)
      go_wp2
      go_ret
      exact ⟨acc, Fk, lk, fk, u5, nk, HSN.out, rfl, hO.out, by omega, hN.out, hL.out, hK.out⟩
end Go.Proofs.Ytclcippfodjfeaa
