/- CheckPrices. -/
import Derived.Test.YtcgheakadfjofaaD7
import Derived.Test.YtcgheakadfjofaaD10
import Derived.Laws.CopyOwn
import Derived.Laws.StructEq
import Derived.ChangeKeysEq
namespace Go.Proofs.Ytcgheakadfjofaa
open Go.RowKit Go.Shelf
set_option linter.unusedVariables false
set_option linter.unusedSimpArgs false
attribute [local go_sem] Oper.semAt_some
theorem Try.infoSome2 : ∃ i, Try.prog.info? 2 = some i := by
  obtain ⟨i, hi, _⟩ := info_parts Try.info2
  exact ⟨i, hi⟩
theorem Try.cells2 : Try.prog.cellsOf 2 = 1 := by kernel_rfl
theorem part2 (xs : List Int) (j : Nat) (h : j < xs.length) (w : World) : (part 2 (xs.map (Value.int .i64)).toArray j).run Try.prog w = .ok (.int .i64 (xs.getD j 0)) w := by
  simp [part, isAgg, run_underlying Try.underlying2, h]
theorem eqItems2 (d : Nat) (xs ys : List Int) (w : World) : ∀ is : List Nat, (∀ j ∈ is, j < xs.length ∧ j < ys.length) →
    (Op.eqItems (d + 1) 2 1 (xs.map (Value.int .i64)).toArray (ys.map (Value.int .i64)).toArray is).run Try.prog w = .ok (is.all fun j => xs.getD j 0 == ys.getD j 0) w
  | [], _ => by simp [Op.eqItems]
  | j :: is, h => by
    have hj := h j (by simp)
    have ih := eqItems2 d xs ys w is fun i hi => h i (by simp [hi])
    have p1 := part2 xs j hj.1 w
    have p2 := part2 ys j hj.2 w
    have p3 := run_equalIn_int (P := Try.prog) w d 2 .i64 .i64 (xs.getD j 0) (ys.getD j 0) Try.underlying2
    simp only [Op.eqItems, Nat.mul_one, Sem.run_bind, p1, p2, p3, Result.andThen_ok, List.all_cons]
    cases hb : (xs.getD j 0 == ys.getD j 0)
    · simp
    · simpa using ih
theorem zeros_getD (j : Nat) : zeros.getD j 0 = 0 := by
  simp only [zeros, List.getD, List.getElem?_replicate]; split <;> rfl
theorem all61 (xs : List Int) (h : xs.length = 61) : ((List.range 61).all fun j => xs.getD j 0 == zeros.getD j 0) = xs.all (· == 0) := by
  simp only [zeros_getD]
  rw [Bool.eq_iff_iff]
  simp only [List.all_eq_true, List.mem_range, beq_iff_eq]
  constructor
  · intro hh x hx
    obtain ⟨j, hj, rfl⟩ := List.mem_iff_getElem.1 hx
    have := hh j (by omega)
    simpa [List.getD, hj] using this
  · intro hh j hj
    have hx : j < xs.length := by omega
    have := hh xs[j] (List.getElem_mem hx)
    simp [List.getD, hx, this]
theorem neq61 (xs : List Int) (h : xs.length = 61) (w : World) : (binOp .neq 91 (.agg (xs.map (Value.int .i64)).toArray) (.agg z61)).run Try.prog w = .ok (.bool (!xs.all (· == 0))) w := by
  obtain ⟨i, hi⟩ := Try.infoSome2
  have hzl : zeros.length = 61 := by unfold zeros; exact List.length_replicate
  have hz : z61 = (zeros.map (Value.int .i64)).toArray := rfl
  obtain ⟨D, hD⟩ : ∃ D, 10000 = D + 1 + 1 := ⟨9998, rfl⟩
  rw [run_neq_struct, hz, hD, run_equalIn_array w (D + 1) _ _ Try.underlying91 hi, Try.cells2, eqItems2 D xs zeros w (List.range 61) (fun j hj => by rw [List.mem_range] at hj; omega)]
  clear hD
  rw [all61 xs h]
  rfl
theorem write_len : ∀ (vs : List Value) (k : Nat) (cs : List Value), k + vs.length ≤ cs.length → splice cs k vs = writeAt cs k vs
  | [], k, cs, h => by show cs.take k ++ ([] ++ cs.drop (k + 0)) = cs; rw [List.nil_append, Nat.add_zero, List.take_append_drop]
  | v :: vs, k, cs, h => by
    rw [writeAt, ← write_len vs (k + 1) (cs.set k v) (by rw [List.length_cons] at h; rw [List.length_set]; omega)]
    unfold splice
    have hk : k < cs.length := by simp at h; omega
    rw [List.take_set, List.take_add_one, List.getElem?_eq_getElem hk]
    simp only [Option.toList_some]
    rw [List.set_append_right _ _ (by simp; omega)]
    have e1 : k - (cs.take k).length = 0 := by simp; omega
    rw [e1]
    rw [List.drop_set_of_lt (by omega)]
    simp only [List.set_cons_zero, List.append_assoc, List.cons_append, List.nil_append, List.length_cons]
    rw [show k + 1 + vs.length = k + (vs.length + 1) from by omega]
theorem ycL_fill (vt vb : Value) (r : Rl) (ps : List Int) (h : ps.length ≤ 61) : splice (ycL vt vb r zeros) 9 (ps.map (Value.int .i64)) = ycL vt vb r (ps ++ zeros.drop ps.length) := by
  have hzl : zeros.length = 61 := by unfold zeros; exact List.length_replicate
  rw [write_len _ _ _ (by unfold ycL; simp [hzl]; omega)]
  have : ∀ (vs : List Int) (k : Nat) (ps : List Int), k + vs.length ≤ ps.length → writeAt (ycL vt vb r ps) (9 + k) (vs.map (Value.int .i64)) = ycL vt vb r (ps.take k ++ vs ++ ps.drop (k + vs.length)) := by
    intro vs
    induction vs with
    | nil => intro k ps h; show ycL vt vb r ps = _; simp
    | cons v vs ih =>
      intro k ps h
      simp only [List.map_cons, writeAt]
      rw [ycL_set, show 9 + k + 1 = 9 + (k + 1) from rfl, ih (k + 1) (ps.set k v) (by simp at h ⊢; omega)]
      congr 1
      have hk : k < ps.length := by simp at h; omega
      rw [List.take_set, List.take_add_one, List.getElem?_eq_getElem hk]
      simp only [Option.toList_some]
      rw [List.set_append_right _ _ (by simp; omega)]
      have e1 : k - (ps.take k).length = 0 := by simp; omega
      rw [e1, List.drop_set_of_lt (by omega)]
      simp only [List.set_cons_zero, List.append_assoc, List.cons_append, List.nil_append, List.length_cons]
      rw [show k + 1 + vs.length = k + (vs.length + 1) from by omega]
  have h2 := this ps 0 zeros (by omega)
  simpa using h2
theorem fill_getD (ps : List Int) (j : Nat) : (ps ++ zeros.drop ps.length).getD j 0 = ps.getD j 0 := by
  simp only [List.getD, List.getElem?_append]
  split
  · rfl
  · rename_i h
    rw [List.getElem?_drop, List.getElem?_eq_none (show ps.length ≤ j by omega)]
    have := zeros_getD (ps.length + (j - ps.length))
    simpa [List.getD] using this
theorem lack_right {f : Nat → Nat → Int} {n : Nat} {q : Nat → Int} (hn : n < 61) (h0 : 0 ≤ q n) : (lackK (lackV f n q) (n + 1)).all (· == 0) = rightB f n q n := by
  rw [Bool.eq_iff_iff, rightB_iff, right_iff h0]
  unfold lackK
  simp only [List.all_eq_true, List.mem_map, List.mem_range, beq_iff_eq]
  constructor
  · intro h i hi
    exact h _ ⟨i, by omega, by rw [if_pos (by omega)]⟩
  · rintro h x ⟨i, hi, rfl⟩
    split
    · exact h i (by omega)
    · rfl
set_option maxRecDepth 100000 in
set_option maxHeartbeats 4000000 in
theorem prices29 (vt vb vp : Value) (th bd ps : List Int) (r : Rl) (w : World) (ht : Reads w vt th) (hd : Reads w vb bd) (hps : Reads w vp ps) :
    Calls Try.prog 29 #[.agg #[vt, vb], r.val, vp] w fun e w' => e = .returned (.tuple #[.int .i64 (prE th bd r ps).1, .int .i64 (prE th bd r ps).2]) ∧ Ext w w' := by
  obtain ⟨hl, a, cap, rfl⟩ := ht.shape
  obtain ⟨hl2, a2, cap2, rfl⟩ := hps.shape
  obtain ⟨n1, hn⟩ : ∃ n1, n1 = th.length := ⟨_, rfl⟩
  obtain ⟨n2, hn2⟩ : ∃ n2, n2 = ps.length := ⟨_, rfl⟩
  rw [← hn] at ht hl ⊢
  rw [← hn2] at hps hl2 ⊢
  have E0 := Lib.hid (Ext.alloc (Ext.alloc (Ext.refl w) (.cells #[.slice a n1 cap, vb] 25)) (.cells #[.int .i64 r.lo, .int .i64 r.hi, .int .i64 r.st, .int .i64 r.tr, .int .i64 r.off, .int .i64 r.dv, .int .i64 r.tn] 27))
  have P0 := Lib.hid ((StemAt.new w (.slice a n1 cap) (vb) 25).ext (Ext.alloc (Ext.refl _) (.cells #[.int .i64 r.lo, .int .i64 r.hi, .int .i64 r.st, .int .i64 r.tr, .int .i64 r.off, .int .i64 r.dv, .int .i64 r.tn] 27)))
  have R0 := RuleAt.new (w.alloc (.cells #[.slice a n1 cap, vb] 25)) r 27
  rw [World.size_alloc] at R0
  have R0 := Lib.hid R0
  have h50 := fun (W : World) (h : Ext w W) => open50 _ _ th bd r W (ht.ext h) (hd.ext h)
  have h56 := fun (W : World) (h : Ext w W) => within56 0 1099511627776 _ ps W (hps.ext h)
  have hok : bothE th bd r = 0 → Vw th bd r ∧ 2 ≤ th.length := fun h => by
    obtain ⟨h1, h2⟩ := bothE_ok.1 h
    exact ⟨h1.weak h2, h1.two⟩
  have hE := show prE th bd r ps = if bothE th bd r ≠ 0 then (0, bothE th bd r) else if ps.length ≠ th.length then (0, 15)
    else if inn 0 1099511627776 ps = false then (0, 3) else if rightB (sF th bd r) (th.length - 1) (fun i => ps.getD i 0) (th.length - 1) = false then (0, 14) else (ps.getD 0 0, 0) from rfl
  generalize prE th bd r ps = fe at *
  generalize bothE th bd r = BE at *
  rw [← hn] at hok
  rw [← hn, ← hn2] at hE
  have H50 := Lib.hid h50; have H56 := Lib.hid h56; have HOK := Lib.hid hok; have HN := Lib.hid hn; have HPS := Lib.hid hps; have HN2 := Lib.hid hn2
  have HE := Lib.hid hE; have HT := Lib.hid ht; have HD := Lib.hid hd
  clear h50 h56 hok ht hd hn hps hn2 hE
  have ⟨g1, g2⟩ := P0.out
  have ⟨r0, r1, r2, r3, r4, r5, r6⟩ := R0.out
  go_enter Try.func29, Try.ntmps29
  go_wp2_with fail
  refine (H50.out _ E0.out).mono ?_
  rintro e w1 ⟨⟨hbe, rfl⟩ | ⟨rfl, b, rfl, hb1, hyo⟩, hb⟩
  · have hbn : (BE != 0) = true := by simpa using hbe
    have E2 := Lib.hid (E0.out.trans hb)
    have hre := Lib.hid (show fe = (0, BE) from by rw [HE.out, if_pos hbe])
    clear g1 g2 r0 r1 r2 r3 r4 r5 r6 hb hbe HE
    go_wp2
    go_ret2
    exact ⟨by rw [hre.out]; rfl, E2.out⟩
  have E2 := Lib.hid (E0.out.trans hb)
  obtain ⟨hv, hn2l⟩ := HOK.out rfl
  have HE0 := Lib.hid (show fe = if n2 ≠ n1 then (0, 15)
    else if inn 0 1099511627776 ps = false then (0, 3) else if rightB (sF th bd r) (n1 - 1) (fun i => ps.getD i 0) (n1 - 1) = false then (0, 14) else (ps.getD 0 0, 0) from by rw [HE.out, if_neg (by simp)])
  have HYO := Lib.hid (show YardOwn w w1 b (.slice a n1 cap) vb th bd r zeros from ⟨hyo, HT.out, HD.out, Nat.le_trans E0.out.size hb1, E2.out⟩)
  have hn61 := hv.most
  rw [← HN.out] at hn61
  have HV := Lib.hid hv
  have c0 := hyo.cells.1
  clear g1 g2 r0 r1 r2 r3 r4 r5 r6 hb hb1 hyo hv HOK HE
  by_cases hne : n2 = n1
  case neg =>
    have hd1 : ((n2 : Int) != (n1 : Int)) = true := by simp; omega
    have hre := Lib.hid (show fe = (0, 15) from by rw [HE0.out, if_pos hne])
    clear HE0
    go_wp2
    go_ret2
    exact ⟨by rw [hre.out]; rfl, E2.out⟩
  subst hne
  have HE1 := Lib.hid (show fe = if inn 0 1099511627776 ps = false then (0, 3) else if rightB (sF th bd r) (n2 - 1) (fun i => ps.getD i 0) (n2 - 1) = false then (0, 14) else (ps.getD 0 0, 0) from by rw [HE0.out, if_neg (by simp)])
  clear HE0
  have h56 := H56.out _ E2.out
  cases hin : inn 0 1099511627776 ps
  · rw [hin] at h56
    have hre := Lib.hid (show fe = (0, 3) from by rw [HE1.out, if_pos hin])
    have H := Lib.hid h56
    clear HE1 hin h56
    go_wp2_with fail
    refine H.out.mono ?_
    rintro e w2 ⟨rfl, rfl⟩
    go_wp2
    go_ret2
    exact ⟨by rw [hre.out]; rfl, E2.out⟩
  rw [hin] at h56
  have H := Lib.hid h56
  have hq1 := fun k => getD_le (inn_iff.1 hin) (by omega) (by omega) k
  obtain ⟨n, rfl⟩ : ∃ n, n2 = n + 1 := ⟨n2 - 1, by omega⟩
  have HE2 := Lib.hid (show fe = if rightB (sF th bd r) n (fun i => ps.getD i 0) n = false then (0, 14) else (ps.getD 0 0, 0) from by rw [HE1.out, if_neg (by rw [hin]; simp)]; rfl)
  have HQ := Lib.hid hq1
  have HP1 := Lib.hid (HPS.out.ext E2.out)
  clear HE1 hin h56 hq1
  obtain ⟨b2, off, x0, rfl, -, -⟩ := HP1.out.at (k := 0) (by rw [← HN2.out]; omega)
  have HCC := Lib.hid (show ∀ j v, (ps.map (Value.int .i64))[j]? = some v → w1.cell? (Addr.add ⟨b2, off, none⟩ j) = some v from fun j v hj => by
    rw [List.getElem?_map] at hj
    obtain ⟨z, hz, rfl⟩ := Option.map_eq_some_iff.1 hj
    have hjl := (List.getElem?_eq_some_iff.1 hz).1
    rw [show (Addr.add ⟨b2, off, none⟩ j) = ⟨b2, off + j, none⟩ from by simp [Addr.add], HP1.out.get hjl]
    simp [List.getD, hz])
  have hcl : (ps.map (Value.int .i64)).length = n + 1 := by rw [List.length_map, ← HN2.out]
  have HCL := Lib.hid hcl
  have hmin : Nat.min (n + 1) 61 = n + 1 := Nat.min_eq_left hn61
  have hone := Lib.hid (show ∀ v ∈ ps.map (Value.int .i64), v.oneCell' = true from by intro v hv; obtain ⟨z, -, rfl⟩ := List.mem_map.1 hv; rfl)
  have HFIT := Lib.hid (show 9 + (ps.map (Value.int .i64)).length ≤ (ycL (.slice a (n + 1) cap) vb r zeros).length from by
    rw [hcl]; unfold ycL zeros; simp; omega)
  clear hcl
  go_wp2_with fail
  refine H.out.mono ?_
  rintro e w2 ⟨rfl, rfl⟩
  go_wp2_with (with_reducible refine wpList_copy_splice rfl (.tmp 34) (.tmp 35) 22 22 rfl 2 Try.underlying22 (by kernel_rfl) (some ⟨b, 9, none⟩) (some ⟨b2, off, none⟩) 61 61 (n + 1) cap2 rfl rfl b 9 _ 93 HYO.out.at_.blk _ (by rw [HCL.out]; exact hmin.symm) (fun _ => ⟨rfl, _, rfl, HCC.out⟩) HFIT.out hone.out w.heap.size w HYO.out.ext0 HYO.out.new ?_; intro w3 hw3 hb3)
  have HY3 := Lib.hid (show YardAt w3 b (.slice a (n + 1) cap) vb th bd r (ps ++ zeros.drop ps.length) from
    ⟨by rw [hw3.out, ycL_fill _ _ _ _ (by rw [← HN2.out]; exact hn61)], HT.out.ext hb3, HD.out.ext hb3, by rw [List.length_append, List.length_drop, ← HN2.out]; unfold zeros; rw [List.length_replicate]; omega⟩)
  have h66 := lacking66 (sF th bd r) n b _ vb th bd r _ HV.out rfl HN.out.symm w3 HY3.out (fun j => by rw [fill_getD]; exact HQ.out j)
  rw [show (fun j => (ps ++ zeros.drop ps.length).getD j 0) = fun j => ps.getD j 0 from funext fun j => fill_getD ps j] at h66
  have hneq := neq61 (lackK (lackV (sF th bd r) n fun j => ps.getD j 0) (n + 1)) (lackK_len _ _)
  rw [lack_right (by omega) (HQ.out n).1] at hneq
  have k0 := fun (W : World) (h : Ext w3 W) => (HY3.out.ext h).price (k := 0) (by omega)
  rw [fill_getD] at k0
  obtain ⟨A, hA⟩ : ∃ A, A = ((lackK (lackV (sF th bd r) n fun j => ps.getD j 0) (n + 1)).map (Value.int .i64)).toArray := ⟨_, rfl⟩
  rw [← hA] at h66 hneq
  generalize rightB (sF th bd r) n (fun i => ps.getD i 0) n = RB at hneq HE2
  obtain ⟨x, hx⟩ : ∃ x, x = ps.getD 0 0 := ⟨_, rfl⟩
  rw [← hx] at k0
  have HX := Lib.hid hx; have H66 := Lib.hid h66; have K0 := Lib.hid k0; have E3 := Lib.hid hb3
  simp only [z61, zeros, List.map_replicate] at hneq
  have hneq2 : ∀ w, (binOp .neq 91 (.agg A) (.agg #[.int .i64 0, .int .i64 0, .int .i64 0, .int .i64 0, .int .i64 0, .int .i64 0, .int .i64 0, .int .i64 0, .int .i64 0, .int .i64 0, .int .i64 0, .int .i64 0, .int .i64 0, .int .i64 0, .int .i64 0, .int .i64 0, .int .i64 0, .int .i64 0, .int .i64 0, .int .i64 0, .int .i64 0, .int .i64 0, .int .i64 0, .int .i64 0, .int .i64 0, .int .i64 0, .int .i64 0, .int .i64 0, .int .i64 0, .int .i64 0, .int .i64 0, .int .i64 0, .int .i64 0, .int .i64 0, .int .i64 0, .int .i64 0, .int .i64 0, .int .i64 0, .int .i64 0, .int .i64 0, .int .i64 0, .int .i64 0, .int .i64 0, .int .i64 0, .int .i64 0, .int .i64 0, .int .i64 0, .int .i64 0, .int .i64 0, .int .i64 0, .int .i64 0, .int .i64 0, .int .i64 0, .int .i64 0, .int .i64 0, .int .i64 0, .int .i64 0, .int .i64 0, .int .i64 0, .int .i64 0, .int .i64 0])).run Try.prog w = .ok (.bool (!RB)) w := fun w => hneq w
  clear hx h66 k0 hA hneq HCC hone HFIT HP1 HPS HQ hb3 hw3 c0
  refine H66.out.mono ?_
  rintro e w4 ⟨rfl, hb4⟩
  have E4 := Lib.hid (Ext.trans E3.out hb4)
  have k9 := K0.out w4 hb4
  cases RB
  · have hre := Lib.hid (show fe = (0, 14) from by rw [HE2.out, if_pos rfl])
    clear HE2 k9
    go_wp2
    go_ret2
    exact ⟨by rw [hre.out]; rfl, E4.out⟩
  · have hre := Lib.hid (show fe = (x, 0) from by rw [HE2.out, if_neg (by simp), HX.out])
    clear HE2 HX
    go_wp2
    go_ret2
    exact ⟨by rw [hre.out]; rfl, E4.out⟩
end Go.Proofs.Ytcgheakadfjofaa
