/- Told and Free, by their contracts. Free, by its contract. -/
import Derived.Test.YtlgdnbpboonhdaaT1
namespace Go.Proofs.Ytlgdnbpboonhdaa
open Go.RowKit Go.Shelf Go.Maps
set_option linter.unusedVariables false
attribute [local go_sem] Oper.semAt_some
theorem open_reg {w w' : World} {b bt S L : Nat} {ms : List Nat} {v : Value} (hR : Reads w v (ints ms)) (hb : Ext w w') (ho : OffAt w' b (.int .i64 (S : Int)) (.int .i64 (L : Int)) v) (h3 : w'.cell? ⟨b, 3, none⟩ = some (.slice (some ⟨bt, 0, none⟩) (full S + 1) (full S + 1))) (hrow : w'.rowIs bt 4 (full S + 1) (fun _ => .bool false)) :
    RegT w' b S L bt v ms (fun _ => false) := ⟨⟨ho, hR.ext hb⟩, h3, hrow⟩
theorem grown_new {w w1 w' : World} {bt : Nat} (h1 : Ext w w1) (hg : w1.grownBy w' (some bt)) (hbt : w.heap.size ≤ bt) : Ext w w' :=
  ⟨hg.os.trans h1.os, hg.tape.trans h1.tape, hg.output.trans h1.output, Nat.le_trans h1.size hg.size, fun k hk => (hg.block k (Nat.lt_of_lt_of_le hk h1.size) (fun e => by have := Option.some.inj e; omega)).trans (h1.block k hk)⟩
def toldV (ms : List Nat) (L i : Nat) : Int := toldTo (mAt ms i) L (noteTo ms L (fun k => k != i) ms.length) (wornL (mAt ms i) L)
theorem told30_ok (S L i : Nat) (ms : List Nat) (v : Value) (w : World) (hv : Valid S L ms) (hr : Reads w v (ints ms)) (hi : i < ms.length) :
    Calls Try.prog 30 #[.agg #[.int .i64 (S : Int), .int .i64 (L : Int), v], .int .i64 (i : Int)] w fun e w' => e = .returned (.tuple #[.int .i64 (toldV ms L i), .int .i64 0]) ∧ Ext w w' := by
  obtain ⟨hl, a, cap, rfl⟩ := hr.shape
  have E0 := Lib.hid (((Ext.refl w).alloc (.cells #[.int .i64 (S : Int), .int .i64 (L : Int), .slice a (ints ms).length cap] 24)).alloc (.cells #[.int .i64 (i : Int)] 3))
  have hsz : w.heap.size ≤ ((w.alloc (.cells #[.int .i64 (S : Int), .int .i64 (L : Int), .slice a (ints ms).length cap] 24)).alloc (.cells #[.int .i64 (i : Int)] 3)).heap.size := E0.out.size
  have HO := Lib.hid (open_ok S L ms _ (.slice (some ⟨(w.alloc (.cells #[.int .i64 (S : Int), .int .i64 (L : Int), .slice a (ints ms).length cap] 24)).heap.size, 0, none⟩) 1 1) [(i : Int)] _ hv (hr.ext E0.out) (Reads.new (w.alloc (.cells #[.int .i64 (S : Int), .int .i64 (L : Int), .slice a (ints ms).length cap] 24)) _ 3 _ rfl (by simp) _ rfl 1 1 rfl) (by simp [inR]; omega))
  rw [World.size_alloc] at HO
  have HR := Lib.hid hr; have HV := Lib.hid hv; have HSZ := Lib.hid hsz
  clear hr hv hsz
  go_enter Try.func30, Try.ntmps30
  go_wp2_with fail
  refine HO.out.mono ?_
  rintro e w' ⟨b, bt, rfl, hb1, hb2, hbne, ho, h3, hrow, hb⟩
  have HB := Lib.hid (E0.out.trans hb)
  have HT := Lib.hid (open_reg (HR.out.ext E0.out) hb ho h3 hrow)
  have HBT := Lib.hid (Nat.le_trans HSZ.out hb2)
  clear hb ho h3 hrow hb1 hb2 hbne
  go_wp2_with fail
  refine (told70 b S L bt i ms _ _ _ HV.out HT.out hi).mono ?_
  rintro e w2 ⟨rfl, hg⟩
  have HG := Lib.hid hg; clear hg
  go_wp2
  go_ret2
  exact ⟨rfl, grown_new HB.out HG.out HBT.out⟩
theorem told30_arg (S L : Nat) (i : Int) (ms : List Nat) (v : Value) (w : World) (hv : Valid S L ms) (hr : Reads w v (ints ms)) (hi : inR 0 ((ms.length : Int) - 1) [i] = false) :
    Calls Try.prog 30 #[.agg #[.int .i64 (S : Int), .int .i64 (L : Int), v], .int .i64 i] w fun e w' => e = .returned (.tuple #[.int .i64 0, .int .i64 2]) ∧ Ext w w' := by
  obtain ⟨hl, a, cap, rfl⟩ := hr.shape
  have E0 := Lib.hid (((Ext.refl w).alloc (.cells #[.int .i64 (S : Int), .int .i64 (L : Int), .slice a (ints ms).length cap] 24)).alloc (.cells #[.int .i64 i] 3))
  have HO := Lib.hid (open_arg S L ms _ (.slice (some ⟨(w.alloc (.cells #[.int .i64 (S : Int), .int .i64 (L : Int), .slice a (ints ms).length cap] 24)).heap.size, 0, none⟩) 1 1) [i] _ hv (hr.ext E0.out) (Reads.new (w.alloc (.cells #[.int .i64 (S : Int), .int .i64 (L : Int), .slice a (ints ms).length cap] 24)) _ 3 _ rfl (by simp) _ rfl 1 1 rfl) hi)
  rw [World.size_alloc] at HO
  clear hr hv
  go_enter Try.func30, Try.ntmps30
  go_wp2_with fail
  refine HO.out.mono ?_
  rintro e w' ⟨rfl, hb⟩
  have HB := Lib.hid (E0.out.trans hb)
  clear hb
  go_wp2
  go_ret2
  exact ⟨rfl, HB.out⟩
theorem told30_err (S L i : Int) (xs : List Int) (v : Value) (w : World) (hr : Reads w v xs) (hc : chk S L xs ≠ 0) :
    Calls Try.prog 30 #[.agg #[.int .i64 S, .int .i64 L, v], .int .i64 i] w fun e w' => e = .returned (.tuple #[.int .i64 0, .int .i64 (chk S L xs)]) ∧ Ext w w' := by
  obtain ⟨hl, a, cap, rfl⟩ := hr.shape
  have E0 := Lib.hid (((Ext.refl w).alloc (.cells #[.int .i64 S, .int .i64 L, .slice a xs.length cap] 24)).alloc (.cells #[.int .i64 i] 3))
  have H := Lib.hid (open_err S L xs _ (.slice (some ⟨w.heap.size + 1, 0, none⟩) 1 1) _ (hr.ext E0.out) hc)
  clear hr
  obtain ⟨c, hc'⟩ : ∃ c, c = chk S L xs := ⟨_, rfl⟩
  rw [← hc'] at hc H ⊢
  have hd : (c != 0) = true := by simpa using hc
  clear hc hc'
  go_enter Try.func30, Try.ntmps30
  go_wp2_with fail
  refine H.out.mono ?_
  rintro e w' ⟨rfl, hb⟩
  have HB := Lib.hid (E0.out.trans hb); clear hb
  go_wp2
  go_ret2
  exact ⟨rfl, HB.out⟩
theorem results_cellB {P : Program} {fn : Func} {p : Tmp} {ty : TypeId} {n : Bool} (h : fn.results = #[.cell p ty]) (tmps : Array Value) (w : World) (b : Nat)
    (hp : tmps.getD p undef = .pointer (some ⟨b, 0, none⟩)) (hc : w.cell? ⟨b, 0, none⟩ = some (.bool n)) (hu : P.underlying ty = some .bool) : (results fn tmps).run P w = .ok (.bool n) w := by
  have hp' : tmps[p]?.getD undef = .pointer (some ⟨b, 0, none⟩) := by simpa using hp
  simp [results, h, hp', asAddr, loadVar, isAgg, run_underlying hu, go_sem, hc]
/-- No worn mark of a mark is noted. -/
def untakenB (m L : Nat) (T : Nat → Bool) : Bool := (wornL m L).all fun x => !T x
set_option maxRecDepth 100000 in
set_option maxHeartbeats 8000000 in
theorem untaken77 (b S L bt m : Nat) (ms : List Nat) (v : Value) (T : Nat → Bool) (w : World) (hv : Valid S L ms) (hr : RegT w b S L bt v ms T) (hm : m ≤ full S) :
    Calls Try.prog 77 #[.pointer (some ⟨b, 0, none⟩), .int .i64 (m : Int)] w fun e w' => e = .returned (.bool (untakenB m L T)) ∧ Ext w w' := by
  refine (callsIn_wide (n := 10)).1 ?_
  have HV := Lib.hid hv; have HR := Lib.hid hr
  have E1 : Ext w ((w.alloc (.cells #[.pointer (some ⟨b, 0, none⟩)] 63)).alloc (.cells #[.bool false] 4)) := ((Ext.refl w).alloc _).alloc _
  have c1 := cell_ext E1 hr.1.1.2.1
  have hm1024 : m < 1024 := by have := full_lt S hv.2.1; omega
  clear hv hr
  refine callsIn_of_wp_marks Try.func77 rfl trivial ?_ rfl
  simp only [Try.ntmps77, List.size_toArray, List.length_cons, List.length_nil, Nat.reduceAdd, Nat.reduceSub, Array.replicate_succ, Array.replicate_zero, List.push_toArray, List.append_toArray, List.nil_append, List.cons_append]
  gi_wp2_with (refine ⟨trivial, ?_⟩; gi_at_call 98; refine (callsIn_wide.2 (worn98 m L _)).mono ?_; rintro e w2 ⟨rfl, rfl⟩)
  have b0 := (((Boxed.new w 63 (.pointer (some ⟨b, 0, none⟩))).alloc (.cells #[.bool false] 4)).alloc (.cells #[.int .i64 (m : Int)] 3)).alloc (.cells #[.int .i64 (L : Int)] 3)
  have b1 := ((Boxed.new (w.alloc (.cells #[.pointer (some ⟨b, 0, none⟩)] 63)) 4 (.bool false)).alloc (.cells #[.int .i64 (m : Int)] 3)).alloc (.cells #[.int .i64 (L : Int)] 3)
  have bM := (Boxed.new ((w.alloc (.cells #[.pointer (some ⟨b, 0, none⟩)] 63)).alloc (.cells #[.bool false] 4)) 3 (.int .i64 (m : Int))).alloc (.cells #[.int .i64 (L : Int)] 3)
  have bL := Boxed.new (((w.alloc (.cells #[.pointer (some ⟨b, 0, none⟩)] 63)).alloc (.cells #[.bool false] 4)).alloc (.cells #[.int .i64 (m : Int)] 3)) 3 (.int .i64 (L : Int))
  have hB0 : Ext w ((((w.alloc (.cells #[.pointer (some ⟨b, 0, none⟩)] 63)).alloc (.cells #[.bool false] 4)).alloc (.cells #[.int .i64 (m : Int)] 3)).alloc (.cells #[.int .i64 (L : Int)] 3)) := (E1.alloc _).alloc _
  have hsz : ((((w.alloc (.cells #[.pointer (some ⟨b, 0, none⟩)] 63)).alloc (.cells #[.bool false] 4)).alloc (.cells #[.int .i64 (m : Int)] 3)).alloc (.cells #[.int .i64 (L : Int)] 3)).heap.size = w.heap.size + 4 := by simp
  simp only [World.size_alloc] at b1 bM bL
  obtain ⟨W0, hW0⟩ : ∃ W0, (((w.alloc (.cells #[.pointer (some ⟨b, 0, none⟩)] 63)).alloc (.cells #[.bool false] 4)).alloc (.cells #[.int .i64 (m : Int)] 3)).alloc (.cells #[.int .i64 (L : Int)] 3) = W0 := ⟨_, rfl⟩
  rw [hW0] at b0 b1 bM bL hB0 hsz ⊢
  clear hW0 c1 E1
  refine wpIn_rangeFunc_ownH rfl (by omega) (gf := 107) (lb := #[.pointer (some ⟨w.heap.size + 1 + 1, 0, none⟩), .pointer (some ⟨w.heap.size + 1 + 1 + 1, 0, none⟩)]) rfl trivial (enters_of Try.func107 (by kernel_rfl) rfl)
    (worn_stops 9 (w.heap.size + 1 + 1) (w.heap.size + 1 + 1 + 1) 0 m L hm1024 (by omega) W0 bM.cell bL.cell) Kp2.trans (kp2_b (by omega) (by simp; omega)) (Below.refl _ _) (fun _ => rfl)
    (fun pre W => (Boxed W (w.heap.size + 1) 4 (.bool false) ∧ (∀ y ∈ vals m pre, T y = false)) ∧ Below w.heap.size w W ∧ Boxed W w.heap.size 63 (.pointer (some ⟨b, 0, none⟩)))
    (fun c pre W => (Boxed W (w.heap.size + 1) 4 (.bool false) ∧ c = .ret ∧ (∃ y ∈ vals m pre, T y = true)) ∧ Below w.heap.size w W)
    ?hI ?hIx ⟨⟨b1, by simp [vals]⟩, hB0, b0⟩
    (fun x a' W => a' = { tmps := #[.pointer (some ⟨b, 0, none⟩), .int .i64 (m : Int), .pointer (some ⟨w.heap.size, 0, none⟩), undef, .pointer (some ⟨w.heap.size + 1, 0, none⟩), .int .i64 (x.1 : Int), .int .i64 (m : Int), .pointer (some ⟨b, 0, none⟩), .pointer (some ⟨b, 0, none⟩), .pointer (some ⟨b, 0, none⟩), .pointer (some ⟨b, 1, none⟩), .int .i64 (L : Int),
      .func (.func 107) #[] #[.pointer (some ⟨w.heap.size + 1 + 1, 0, none⟩), .pointer (some ⟨w.heap.size + 1 + 1 + 1, 0, none⟩)], .int .i64 (x.1 : Int), undef, undef, undef, undef, undef, undef, undef], defers := [] })
    ?hAx ?assign ?body ?done ?stop
  case hI => exact OwnFrom.and (fun s A B row hs hg hr => ⟨boxed_turn hs.1 hg hr, hs.2⟩) (OwnFrom.and (ownFrom_below (Nat.le_refl _) hB0.size) (fun s A B row hs hg hr => boxed_turn hs hg hr))
  case hIx => exact fun c => OwnFrom.and (fun s A B row hs hg hr => ⟨boxed_turn hs.1 hg hr, hs.2⟩) (ownFrom_below (Nat.le_refl _) hB0.size)
  case hAx => exact fun x a' s A B row hs hg hr => hs
  case assign =>
    rintro l pre x W K hI hK
    dsimp only [encS]
    gi_wp2
    exact hK _ _ (KeepsFrom.refl _ _) (Kp2.refl _ _ _) hI rfl
  case body =>
    rintro l pre x A W hl ⟨r, hrl⟩ ⟨⟨q1, hall⟩, hB, q0⟩ rfl hlt2
    obtain ⟨x, hx⟩ := x
    have hxf : x ≤ full S := by have := sub_le _ _ hx; omega
    have hka2 : (0 : Int) ≤ (x : Int) := by omega
    have hkb2 : (x : Int) < ((full S + 1 : Nat) : Int) := by omega
    have hRW := HR.out.ext hB
    have d0 := q0.cell
    have d3 := hRW.2.1
    have dx := hRW.2.2.cell (i := x) (by omega)
    have d1 := q1.cell
    have f1 := q1.frozen
    obtain ⟨tv, htv⟩ : ∃ tv, tv = T x := ⟨_, rfl⟩
    rw [← htv] at dx
    have HTV := Lib.hid htv; have HALL := Lib.hid hall; have HB' := Lib.hid hB; have Q1 := Lib.hid q1; have Q0 := Lib.hid q0; have HRL := Lib.hid hrl
    clear htv hall hB q1 q0 hrl hRW
    dsimp only
    cases tv with
    | false =>
      gi_wp2
      refine ⟨KeepsFrom.refl _ _, Kp2.refl _ _ _, ⟨⟨Q1.out, ?_⟩, HB'.out, Q0.out⟩⟩
      intro y hy
      rw [vals_snoc] at hy
      rcases List.mem_append.1 hy with hy | hy
      · exact HALL.out y hy
      · simp at hy; subst hy; exact HTV.out.symm
    | true =>
      gi_wp2
      refine ⟨(KeepsOthers.setCell _ _ _).from _, ⟨⟨Q1.out.set _, rfl, ⟨x, ?_, HTV.out.symm⟩⟩, HB'.out.setCell (p := ⟨w.heap.size + 1, 0, none⟩) (by simp) _⟩⟩
      rw [vals_snoc]; simp
  case done =>
    rintro D ys W hD hS ⟨⟨q1, hall⟩, hB, q0⟩ hK
    have hval : untakenB m L T = true := by
      unfold untakenB
      rw [← show vals m ys = wornL m L from hS]
      exact List.all_eq_true.2 fun y hy => by rw [hall y hy]; rfl
    have d1 := q1.cell
    have f1 := q1.frozen
    have HVL := Lib.hid hval; have HK := Lib.hid hK; have HBW := Lib.hid hB; have Q1 := Lib.hid q1
    clear hval hK hB q1 q0 hS hall
    gi_wp2
    have hK' : (W.setCell ⟨w.heap.size + 1, 0, none⟩ (.bool true)).heap[D]? = some (.deferred (some [])) := (KeepsOthers.setCell _ _ _).same D _ HK.out rfl
    refine ⟨by simp, .inl ⟨_, _, rfl, run_takeDeferred hK', ?_⟩⟩
    have r1 : Boxed (W.setCell ⟨w.heap.size + 1, 0, none⟩ (.bool true)) _ _ _ := Q1.out.set (.bool true)
    have hc := cell_kept r1.cell (grownBy_putObj' _ D (.deferred none)) (fun r e => by cases e; exact ⟨_, hK', rfl⟩)
    refine ⟨.bool true, results_cellB Try.results77 _ _ _ rfl hc Try.underlying4, by rw [HVL.out], ?_⟩
    exact (HBW.out.setCell (p := ⟨w.heap.size + 1, 0, none⟩) (by simp) _).trans (belowK_b (w := w) (Nat.le_refl _) _ D _ _ (by omega) hK' rfl rfl)
  case stop =>
    rintro D c pre W hD hSp ⟨⟨q1, rfl, y, hy, hT⟩, hB⟩ hK
    have hval : untakenB m L T = false := by
      unfold untakenB
      refine List.all_eq_false.2 ⟨y, (show vals m pre <+: wornL m L from hSp).subset hy, by rw [hT]; simp⟩
    have HVL := Lib.hid hval; have HK := Lib.hid hK; have HBW := Lib.hid hB; have Q1 := Lib.hid q1
    clear hval hK hB q1 hSp hy hT
    gi_wp2
    refine ⟨by simp, .inl ⟨_, _, rfl, run_takeDeferred HK.out, ?_⟩⟩
    have hc := cell_kept Q1.out.cell (grownBy_putObj' _ D (.deferred none)) (fun r e => by cases e; exact ⟨_, HK.out, rfl⟩)
    refine ⟨.bool false, results_cellB Try.results77 _ _ _ rfl hc Try.underlying4, by rw [HVL.out], ?_⟩
    exact HBW.out.trans (belowK_b (w := w) (Nat.le_refl _) _ D _ _ (by omega) HK.out rfl rfl)
end Go.Proofs.Ytlgdnbpboonhdaa
namespace Go.Proofs.Ytlgdnbpboonhdaa
open Go.RowKit Go.Shelf Go.Maps
set_option linter.unusedVariables false
attribute [local go_sem] Oper.semAt_some
def freeT (ms : List Nat) (L : Nat) : Nat → Bool := noteTo ms L (fun _ => true) ms.length
def freeL (S L : Nat) (ms : List Nat) : List Nat := pickL 1 (full S) fun m => untakenB m L (freeT ms L)
theorem ent77 (args : Array Value) (W : World) : (callFunc 77 args).run Try.prog W = .ok (.enter 77 args) W := by simp [callFunc, Try.func77, go_sem]; rfl
theorem ent76 (args : Array Value) (W : World) : (callFunc 76 args).run Try.prog W = .ok (.enter 76 args) W := by simp [callFunc, Try.func76, go_sem]; rfl
set_option maxRecDepth 10000 in
theorem free35_ok (S L : Nat) (ms : List Nat) (v : Value) (w : World) (hv : Valid S L ms) (hr : Reads w v (ints ms)) :
    Calls Try.prog 35 #[.agg #[.int .i64 (S : Int), .int .i64 (L : Int), v]] w fun e w' => ∃ u, e = .returned (.tuple #[u, .int .i64 0]) ∧ Reads w' u (ints (freeL S L ms)) ∧ Ext w w' := by
  obtain ⟨hl, a, cap, rfl⟩ := hr.shape
  have E0 := Lib.hid ((Ext.refl w).alloc (.cells #[.int .i64 (S : Int), .int .i64 (L : Int), .slice a (ints ms).length cap] 24))
  have P0 := Lib.hid (OffAt.new w (.int .i64 S) (.int .i64 L) (.slice a (ints ms).length cap) 24)
  have HO := Lib.hid (open_ok S L ms _ (.slice none 0 0) [] _ hv (hr.ext E0.out) (Reads.nil _) rfl)
  have HR := Lib.hid hr; have HV := Lib.hid hv
  have hS1 := hv.1
  have hS2 := hv.2.1
  have hF := full_lt S hv.2.1
  clear hr hv
  go_enter Try.func35, Try.ntmps35
  go_wp2_with fail
  refine HO.out.mono ?_
  rintro e w' ⟨b, bt, rfl, hb1, hb2, hbne, ho, h3, hrow, hb⟩
  have HB := Lib.hid (E0.out.trans hb)
  have HT := Lib.hid (open_reg (HR.out.ext E0.out) hb ho h3 hrow)
  have HBT := Lib.hid hb2
  have PB := Lib.hid (P0.out.ext hb)
  clear hb ho h3 hrow hb1 hb2 hbne
  go_wp2_with fail
  refine (note75 b S L bt ms _ _ 76 #[] (fun _ => true) _ HV.out HT.out ent76 (fun i W _ _ => any76_calls i W)).mono ?_
  rintro e w2 ⟨rfl, hT2, hG2⟩
  have hk2 := KeepsCells.turned HT.out.2.2 hG2
  have g1 := hk2 _ _ _ (fun t e => by cases e) PB.out.1
  have g2 := hk2 _ _ _ (fun t e => by cases e) PB.out.2.1
  have g3 := hk2 _ _ _ (fun t e => by cases e) PB.out.2.2
  have HT2 := Lib.hid hT2
  have HE2 := Lib.hid (grown_new HB.out hG2 (by have := HBT.out; simp at this; omega))
  clear hT2 hG2 hk2
  go_wp2_with fail
  refine (allStrokes_any S _ _ _ hS1 hS2).mono ?_
  rintro e w3 ⟨rfl, hb⟩
  have HT3 := Lib.hid (HT2.out.ext hb); have HE3 := Lib.hid (HE2.out.trans hb)
  clear hb
  go_wp2_with fail
  refine (pick59 77 #[.pointer (some ⟨b, 0, none⟩)] #[] 1 (full S) (full S : Int) (fun m => untakenB m L (freeT ms L)) _ (by omega) (by omega) (by omega) ent77 (fun i W hi hW => by
    simpa [freeT] using untaken77 b S L bt (1 + i) ms _ _ W HV.out (HT3.out.ext hW) (by omega))).mono ?_
  rintro e w4 ⟨u, rfl, hru, hb4⟩
  have HRU := Lib.hid hru; have HB4 := Lib.hid (HE3.out.trans hb4); clear hru hb4
  go_wp2
  go_ret2
  exact ⟨u, rfl, HRU.out, HB4.out⟩
theorem free35_err (S L : Int) (xs : List Int) (v : Value) (w : World) (hr : Reads w v xs) (hc : chk S L xs ≠ 0) :
    Calls Try.prog 35 #[.agg #[.int .i64 S, .int .i64 L, v]] w fun e w' => e = .returned (.tuple #[.slice none 0 0, .int .i64 (chk S L xs)]) ∧ Ext w w' := by
  obtain ⟨hl, a, cap, rfl⟩ := hr.shape
  have E0 := Lib.hid ((Ext.refl w).alloc (.cells #[.int .i64 S, .int .i64 L, .slice a xs.length cap] 24))
  have H := Lib.hid (open_err S L xs _ (.slice none 0 0) _ (hr.ext E0.out) hc)
  clear hr
  obtain ⟨c, hc'⟩ : ∃ c, c = chk S L xs := ⟨_, rfl⟩
  rw [← hc'] at hc H ⊢
  have hd : (c != 0) = true := by simpa using hc
  clear hc hc'
  go_enter Try.func35, Try.ntmps35
  go_wp2_with fail
  refine H.out.mono ?_
  rintro e w' ⟨rfl, hb⟩
  have HB := Lib.hid (E0.out.trans hb); clear hb
  go_wp2
  go_ret2
  exact ⟨rfl, HB.out⟩
end Go.Proofs.Ytlgdnbpboonhdaa
