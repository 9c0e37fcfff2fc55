/- note, by its contract. -/
import Derived.Test.YtlgdnbpboonhdaaA2
import Derived.Test.YtlgdnbpboonhdaaR1
namespace Go.Proofs.Ytlgdnbpboonhdaa
open Go.RowKit Go.Shelf Go.Maps
set_option linter.unusedVariables false
attribute [local go_sem] Oper.semAt_some
def noteTo (ms : List Nat) (L : Nat) (mt : Nat → Bool) (k x : Nat) : Bool := (List.range k).any fun i => mt i && cb L x (mAt ms i)
theorem noteTo_succ (ms : List Nat) (L : Nat) (mt : Nat → Bool) (k x : Nat) : noteTo ms L mt (k + 1) x = (noteTo ms L mt k x || (mt k && cb L x (mAt ms k))) := by
  simp [noteTo, List.range_succ]
theorem grown_setCell (W : World) (b i : Nat) (v : Value) : W.grownBy (W.setCell ⟨b, i, none⟩ v) (some b) :=
  ⟨rfl, rfl, rfl, (KeepsWalks.setCell W _ v).size, fun k _ hk => Below.heap_setCell _ _ _ k (fun e => hk (by rw [e]))⟩
theorem grown_setCells (b : Nat) : ∀ (vs : List Value) (o : Nat) (w : World), w.grownBy (w.setCells b o vs) (some b)
  | [], o, w => World.grownBy.refl _ _
  | v :: r, o, w => Lib.grownBy_trans (grown_setCell w b o v) (grown_setCells b r (o + 1) _)
theorem run_clear68 (w : World) (b n c : Nat) (hn : 0 < n) (T : Nat → Bool) (hr : w.rowIs b 4 n (fun x => .bool (T x))) (ty : TypeId) :
    ∃ W1, (Builtin.clear_ #[68] ty #[.slice (some ⟨b, 0, none⟩) n c]).run Try.prog w = .ok (.tuple #[]) W1 ∧ W1.rowIs b 4 n (fun x => .bool false) ∧ w.grownBy W1 (some b) := by
  have h := Lib.run_clear_slice (P := Try.prog) w 68 4 ty (.bool false) Try.underlying68 (fun w => by simp [zeroValue]; rfl) rfl rfl b 0 n c hn (fun j hj => by rw [Nat.zero_add, hr.cell hj]; rfl) (fun j hj => by
    obtain ⟨c, hb, _⟩ := hr
    exact frozen_of_row _ _ _ _ _ hb)
  refine ⟨_, h, ?_, grown_setCells b _ 0 w⟩
  have h2 := rowIs_setCells (List.replicate n (Value.bool false)) 0 w _ hr
  obtain ⟨c, hb, hs, hx⟩ := h2
  refine ⟨c, hb, hs, fun i hi => ?_⟩
  rw [hx i hi]
  simp [hi]
theorem keeps_turn {A B : World} {base : Nat} {row : Option Nat} (hg : A.grownBy B row) (hr : ∀ r, row = some r → base ≤ r ∧ ∃ o : Obj, A.heap[r]? = some o ∧ o.isCells = false) : KeepsCells A B := fun g o v _ hc => cell_kept hc hg (fun r e => (hr r e).2)
theorem regT_turn {A B : World} {b S L bt : Nat} {v : Value} {ms : List Nat} {T : Nat → Bool} (h : RegT A b S L bt v ms T) (hv : ∀ t, v ≠ .bool t) {base : Nat} {row : Option Nat} (hg : A.grownBy B row) (hr : ∀ r, row = some r → base ≤ r ∧ ∃ o : Obj, A.heap[r]? = some o ∧ o.isCells = false) : RegT B b S L bt v ms T := by
  refine h.keeps hv (keeps_turn hg hr) ?_
  obtain ⟨c, hh, r⟩ := h.2.2
  exact ⟨c, cells_turn hh hg hr, r⟩
theorem grown_turn {w A B : World} {r0 : Option Nat} (h : w.grownBy A r0) {base : Nat} (hb : w.heap.size ≤ base) {row : Option Nat} (hg : A.grownBy B row) (hr : ∀ r, row = some r → base ≤ r ∧ ∃ o : Obj, A.heap[r]? = some o ∧ o.isCells = false) : w.grownBy B r0 :=
  ⟨hg.os.trans h.os, hg.tape.trans h.tape, hg.output.trans h.output, Nat.le_trans h.size hg.size, fun i hi hne => (hg.block i (Nat.lt_of_lt_of_le hi h.size) (fun e => by have := (hr i e.symm).1; omega)).trans (h.block i hi hne)⟩
def Fr75 (b S bt h0 n cap : Nat) (a : Option Addr) (gm : FuncId) (caps : Array Value) (ds : List Deferred) (v17 : Value) (A : Act) : Prop :=
  ∃ x3 x4 x5 x6 x18 x19 x20 x21 x22 x23 x24 x25 x26 x27 x28 x29 x30 x31 x32 x33 x34 x35 x36 x37 x38 x39 x40 : Value, A = { tmps := #[.pointer (some ⟨b, 0, none⟩), .func (.func gm) #[] caps, .pointer (some ⟨h0, 0, none⟩), x3, x4, x5, x6, .pointer (some ⟨b, 0, none⟩), .pointer (some ⟨b, 0, none⟩), .pointer (some ⟨b, 3, none⟩), .slice (some ⟨bt, 0, none⟩) (full S + 1) (full S + 1),
      .pointer (some ⟨b, 0, none⟩), .pointer (some ⟨b, 0, none⟩), .pointer (some ⟨b, 0, none⟩), .pointer (some ⟨b, 2, none⟩), .slice a n cap, .int .i64 (n : Int), v17, x18, x19, x20, x21, x22, x23, x24, x25, x26, x27, x28, x29, x30, x31, x32, x33, x34, x35, x36, x37, x38, x39, x40], defers := ds }
theorem Fr75.mk {b S bt h0 n cap : Nat} {a : Option Addr} {gm : FuncId} {caps : Array Value} {ds : List Deferred} {v17 : Value} {x3 x4 x5 x6 x18 x19 x20 x21 x22 x23 x24 x25 x26 x27 x28 x29 x30 x31 x32 x33 x34 x35 x36 x37 x38 x39 x40 : Value} : Fr75 b S bt h0 n cap a gm caps ds v17
    { tmps := #[.pointer (some ⟨b, 0, none⟩), .func (.func gm) #[] caps, .pointer (some ⟨h0, 0, none⟩), x3, x4, x5, x6, .pointer (some ⟨b, 0, none⟩), .pointer (some ⟨b, 0, none⟩), .pointer (some ⟨b, 3, none⟩), .slice (some ⟨bt, 0, none⟩) (full S + 1) (full S + 1),
      .pointer (some ⟨b, 0, none⟩), .pointer (some ⟨b, 0, none⟩), .pointer (some ⟨b, 0, none⟩), .pointer (some ⟨b, 2, none⟩), .slice a n cap, .int .i64 (n : Int), v17, x18, x19, x20, x21, x22, x23, x24, x25, x26, x27, x28, x29, x30, x31, x32, x33, x34, x35, x36, x37, x38, x39, x40], defers := ds } := ⟨x3, x4, x5, x6, x18, x19, x20, x21, x22, x23, x24, x25, x26, x27, x28, x29, x30, x31, x32, x33, x34, x35, x36, x37, x38, x39, x40, rfl⟩
def nT (ms : List Nat) (L : Nat) (mt : Nat → Bool) (k m : Nat) (pre : List (SubOf m)) (x : Nat) : Bool := noteTo ms L mt k x || (vals m pre).contains x
theorem nT_nil (ms : List Nat) (L : Nat) (mt : Nat → Bool) (k m : Nat) : nT ms L mt k m [] = noteTo ms L mt k := by
  funext x; simp [nT, vals]
theorem nT_snoc (ms : List Nat) (L : Nat) (mt : Nat → Bool) (k m : Nat) (pre : List (SubOf m)) (x : SubOf m) (y : Nat) : nT ms L mt k m (pre ++ [x]) y = if y = x.1 then true else nT ms L mt k m pre y := by
  unfold nT
  rw [vals_snoc]
  by_cases h : y = x.1
  · simp [h]
  · simp [h]
def atInt (A : Act) (i : Nat) : Nat := match A.tmps.getD i undef with | .int _ n => n.toNat | _ => 0
theorem noteTo_more (ms : List Nat) (L : Nat) (mt : Nat → Bool) (k : Nat) (hk : (mAt ms k) < 1024) (h : mt k = true) : (fun x => noteTo ms L mt k x || (wornL (mAt ms k) L).contains x) = noteTo ms L mt (k + 1) := by
  funext x
  rw [noteTo_succ, h, Bool.true_and]
  congr 1
  rw [Bool.eq_iff_iff, List.contains_iff_mem, mem_wornL _ _ _ hk]
theorem noteTo_same (ms : List Nat) (L : Nat) (mt : Nat → Bool) (k : Nat) (h : mt k = false) : noteTo ms L mt (k + 1) = noteTo ms L mt k := by
  funext x
  rw [noteTo_succ, h, Bool.false_and, Bool.or_false]
/-- The ended loops' marks stay. -/
def KeepsDef (A B : World) : Prop := A.heap.size ≤ B.heap.size ∧ ∀ E, E < A.heap.size → A.heap[E]? = some (.deferred (some [])) → B.heap[E]? = some (.deferred (some []))
theorem KeepsDef.refl (A : World) : KeepsDef A A := ⟨Nat.le_refl _, fun _ _ h => h⟩
theorem KeepsDef.trans {A B C : World} (h : KeepsDef A B) (k : KeepsDef B C) : KeepsDef A C := ⟨Nat.le_trans h.1 k.1, fun E hE hh => k.2 E (Nat.lt_of_lt_of_le hE h.1) (h.2 E hE hh)⟩
theorem KeepsDef.others {A B : World} (h : KeepsOthers A B) : KeepsDef A B := ⟨h.size, fun E _ hE => h.same E _ hE rfl⟩
theorem KeepsDef.turn {W0 A B : World} (h : KeepsDef W0 A) {base : Nat} (hb : W0.heap.size ≤ base) {row : Option Nat} (hg : A.grownBy B row) (hr : ∀ r, row = some r → base ≤ r ∧ ∃ o : Obj, A.heap[r]? = some o ∧ o.isCells = false) : KeepsDef W0 B :=
  ⟨Nat.le_trans h.1 hg.size, fun E hE hh => (hg.block E (Nat.lt_of_lt_of_le hE h.1) (fun e => by have := (hr E e.symm).1; omega)).trans (h.2 E hE hh)⟩
set_option maxRecDepth 100000 in
set_option maxHeartbeats 8000000 in
theorem note75 (b S L bt : Nat) (ms : List Nat) (v : Value) (T : Nat → Bool) (gm : FuncId) (caps : Array Value) (mt : Nat → Bool) (w : World) (hv : Valid S L ms) (hr : RegT w b S L bt v ms T)
    (hent : ∀ args W, (callFunc gm args).run Try.prog W = .ok (.enter gm args) W)
    (hg : ∀ i W, i < ms.length → KeepsCells w W → Calls Try.prog gm (#[.int .i64 (i : Int)] ++ caps) W fun e w' => e = .returned (.bool (mt i)) ∧ w' = W) :
    Calls Try.prog 75 #[.pointer (some ⟨b, 0, none⟩), .func (.func gm) #[] caps] w fun e w' => e = .returned (.tuple #[]) ∧ RegT w' b S L bt v ms (noteTo ms L mt ms.length) ∧ w.grownBy w' (some bt) := by
  refine (callsIn_wide (n := 10)).1 ?_
  obtain ⟨hl, a, cap, rfl⟩ := hr.1.2.shape
  have HG := Lib.hid hg; have HV := Lib.hid hv; have HR := Lib.hid hr
  have E0 := (Ext.refl w).alloc (.cells #[.pointer (some ⟨b, 0, none⟩)] 63)
  have hr1 := hr.ext E0
  have hbt := hr.lt
  obtain ⟨W1, hcl, hrow, hgr⟩ := run_clear68 _ bt (full S + 1) (full S + 1) (by omega) T hr1.2.2 0
  have c3 := hr1.2.1
  have hk1 := KeepsCells.turned hr1.2.2 hgr
  have hR1 : RegT W1 b S L bt (.slice a (ints ms).length cap) ms (noteTo ms L mt 0) := hr1.keeps (fun t e => by cases e) hk1 hrow
  have b0 : Boxed W1 w.heap.size 63 (.pointer (some ⟨b, 0, none⟩)) := (Boxed.new w 63 (.pointer (some ⟨b, 0, none⟩))).kept hgr (by intro e; have := Option.some.inj e; omega)
  have hG1 : w.grownBy W1 (some bt) := Lib.grownBy_trans (grown_ext E0 _) hgr
  have hsz : w.heap.size < W1.heap.size := by have := hgr.size; simp at this; omega
  have c0 := b0.cell
  have c2 := hR1.1.1.2.2
  clear hg hv hr hk1 hrow hgr hr1
  refine callsIn_of_wp_marks Try.func75 rfl trivial ?_ rfl
  simp only [Try.ntmps75, List.size_toArray, List.length_cons, List.length_nil, Nat.reduceAdd, Nat.reduceSub, Array.replicate_succ, Array.replicate_zero, List.push_toArray, List.append_toArray, List.nil_append, List.cons_append]
  gi_wp2
  rw [ints_length] at *
  have hm0 := Marks.nil (w.heap.size + 1) W1
  have HM0 := Lib.hid hm0; have HR1 := Lib.hid hR1; have HG1 := Lib.hid hG1; have HB0 := Lib.hid b0
  clear hm0 hR1 hG1 b0 c0 c2 c3 hcl E0
  refine wpIn_loop (fun A W => ∃ (k : Nat) (ds : List Deferred) (v17 : Value), k ≤ ms.length ∧ Fr75 b S bt w.heap.size ms.length cap a gm caps ds v17 A ∧ v17 = .int .i64 (k : Int) ∧
      Hid (RegT W b S L bt (.slice a ms.length cap) ms (noteTo ms L mt k)) ∧ Hid (w.grownBy W (some bt)) ∧ Hid (Boxed W w.heap.size 63 (.pointer (some ⟨b, 0, none⟩))) ∧ w.heap.size < W.heap.size ∧ Hid (Marks (w.heap.size + 1) ds W))
    (fun A W => ms.length - atInt A 17) ?start ?round
  case start => exact ⟨0, [], _, Nat.zero_le _, Fr75.mk, rfl, HR1, HG1, HB0, hsz, HM0⟩
  case round =>
    rintro A W ⟨k, ds, v17, hk, ⟨x3, x4, x5, x6, x18, x19, x20, x21, x22, x23, x24, x25, x26, x27, x28, x29, x30, x31, x32, x33, x34, x35, x36, x37, x38, x39, x40, rfl⟩, rfl, hRT, hGW, hBW, hlW, hMW⟩
    by_cases hlt : k < ms.length
    · have hmk : ms[k]? = some (mAt ms k) := by simp [mAt, hlt]
      obtain ⟨b1, off, rfl, _, hcy⟩ := hRT.out.1.2.atN hmk
      have hka : (0 : Int) ≤ (k : Int) := by omega
      have hkb : (k : Int) < (ms.length : Int) := by omega
      have HC := Lib.hid (HG.out k W hlt (KeepsCells.turned HR.out.2.2 hGW.out))
      have c1 := hRT.out.1.1.2.1
      have c0 := hBW.out.cell
      clear HR1 HG1 HB0 HM0 hsz
      have hlen := hl
      cases hmt : mt k with
      | false =>
        rw [hmt] at HC
        have hsame := noteTo_same ms L mt k hmt
        gi_wp2_with (refine ⟨trivial, (callsIn_wide.2 HC.out).mono ?_⟩; rintro e w' ⟨rfl, rfl⟩)
        exact ⟨⟨k + 1, ds, _, by omega, Fr75.mk, by go_num, by rw [hsame]; exact hRT, hGW, hBW, hlW, hMW⟩, by simp [atInt]; omega⟩
      | true =>
        rw [hmt] at HC
        gi_wp2_with (refine ⟨trivial, (callsIn_wide.2 HC.out).mono ?_⟩; rintro e w' ⟨rfl, rfl⟩)
        clear HC
        refine ⟨trivial, (callsIn_wide.2 (worn98 (mAt ms k) L _)).mono ?_⟩
        rintro e w2 ⟨rfl, rfl⟩
        gi_wp2
        have hm1024 : mAt ms k < 1024 := HV.out.lt hmk
        have hmfull := HV.out.mlt hmk
        have bM := (Boxed.new w' 3 (.int .i64 (mAt ms k : Int))).alloc (.cells #[.int .i64 (L : Int)] 3)
        have bL := Boxed.new (w'.alloc (.cells #[.int .i64 (mAt ms k : Int)] 3)) 3 (.int .i64 (L : Int))
        have hE : Ext w' ((w'.alloc (.cells #[.int .i64 (mAt ms k : Int)] 3)).alloc (.cells #[.int .i64 (L : Int)] 3)) := ((Ext.refl _).alloc _).alloc _
        have hsz2 : ((w'.alloc (.cells #[.int .i64 (mAt ms k : Int)] 3)).alloc (.cells #[.int .i64 (L : Int)] 3)).heap.size = w'.heap.size + 2 := by simp
        simp only [World.size_alloc] at bL
        obtain ⟨W0, hW0⟩ : ∃ W0, (w'.alloc (.cells #[.int .i64 (mAt ms k : Int)] 3)).alloc (.cells #[.int .i64 (L : Int)] 3) = W0 := ⟨_, rfl⟩
        rw [hW0] at bM bL hE hsz2 ⊢
        clear hW0
        have hRT0 := hRT.out.ext hE
        have hG0 := Lib.grownBy_trans hGW.out (grown_ext hE (some bt))
        have hB0 : Boxed W0 w.heap.size 63 (.pointer (some ⟨b, 0, none⟩)) := block_ext hE hBW.out
        have hwl : w.heap.size < W0.heap.size := by omega
        have hM0 : Marks (w.heap.size + 1) ds W0 := by
          obtain ⟨Ds, h1, h2, h3⟩ := hMW.out
          exact ⟨Ds, h1, h2, fun D hD => ⟨(h3 D hD).1, (hE.block D (Array.getElem?_eq_some_iff.1 (h3 D hD).2).1).trans (h3 D hD).2⟩⟩
        refine wpIn_rangeFunc_ownH rfl (by omega) (gf := 107) (lb := #[.pointer (some ⟨w'.heap.size, 0, none⟩), .pointer (some ⟨w'.heap.size + 1, 0, none⟩)]) rfl trivial (enters_of Try.func107 (by kernel_rfl) rfl)
          (worn_stops 9 w'.heap.size (w'.heap.size + 1) 0 (mAt ms k) L hm1024 (by omega) W0 bM.cell bL.cell) Kp2.trans (kp2_b (by omega) (by simp; omega)) (Below.refl _ _) (fun _ => rfl)
          (fun pre W => (RegT W b S L bt (.slice (some ⟨b1, off, none⟩) ms.length cap) ms (nT ms L mt k (mAt ms k) pre) ∧ w.grownBy W (some bt)) ∧ (Boxed W w.heap.size 63 (.pointer (some ⟨b, 0, none⟩)) ∧ KeepsDef W0 W))
          (fun _ _ _ => False)
          ?hI (fun _ _ _ _ _ h _ _ => h) ⟨⟨by rw [nT_nil]; exact hRT0, hG0⟩, hB0, KeepsDef.refl _⟩
          (fun x a' W => a' = { tmps := #[.pointer (some ⟨b, 0, none⟩), .func (.func gm) #[] caps, .pointer (some ⟨w.heap.size, 0, none⟩), x3, .int .i64 (k : Int), .int .i64 (mAt ms k : Int), .int .i64 (x.1 : Int), .pointer (some ⟨b, 0, none⟩), .pointer (some ⟨b, 0, none⟩), .pointer (some ⟨b, 3, none⟩), .slice (some ⟨bt, 0, none⟩) (full S + 1) (full S + 1),
            .pointer (some ⟨b, 0, none⟩), .pointer (some ⟨b, 0, none⟩), .pointer (some ⟨b, 0, none⟩), .pointer (some ⟨b, 2, none⟩), .slice (some ⟨b1, off, none⟩) ms.length cap, .int .i64 (ms.length : Int), .int .i64 (k : Int), .bool true, .int .i64 (k : Int), .pointer (some ⟨b1, off + k, none⟩), .int .i64 (mAt ms k : Int), .func (.func gm) #[] caps, .int .i64 (k : Int), .bool true, .bool false,
            .int .i64 (mAt ms k : Int), .pointer (some ⟨b, 0, none⟩), .pointer (some ⟨b, 0, none⟩), .pointer (some ⟨b, 0, none⟩), .pointer (some ⟨b, 1, none⟩), .int .i64 (L : Int), .func (.func 107) #[] #[.pointer (some ⟨w'.heap.size, 0, none⟩), .pointer (some ⟨w'.heap.size + 1, 0, none⟩)], .int .i64 (x.1 : Int), x34, x35, x36, x37, x38, x39, x40], defers := [] })
          ?hAx ?assign ?body ?done ?stop
        case hI =>
          exact OwnFrom.and (OwnFrom.and (fun s A B row hs hg hr => regT_turn hs (fun t e => by cases e) hg hr) (fun s A B row hs hg hr => grown_turn hs (by omega) hg hr)) (OwnFrom.and (fun s A B row hs hg hr => boxed_turn hs hg hr) (fun s A B row hs hg hr => hs.turn (Nat.le_refl _) hg hr))
        case hAx => exact fun x a' s A B row hs hg hr => hs
        case assign =>
          rintro l pre x W K hI hK
          dsimp only [encS]
          gi_wp2
          exact hK _ _ (KeepsFrom.refl _ _) (Kp2.refl _ _ _) hI rfl
        case body =>
          rintro l pre x A W hl ⟨r, hrl⟩ ⟨⟨hRW, hGW2⟩, hBW2, hKD⟩ rfl hlt2
          obtain ⟨x, hx⟩ := x
          have hxf : x ≤ full S := by have := sub_le _ _ hx; omega
          have hka2 : (0 : Int) ≤ (x : Int) := by omega
          have hkb2 : (x : Int) < ((full S + 1 : Nat) : Int) := by omega
          have c0 := hBW2.cell
          have c3 := hRW.2.1
          have hcx := hRW.2.2.cell (i := x) (by omega)
          have hfx : W.frozen? ⟨bt, x, none⟩ = false := by
            obtain ⟨c, hh, _⟩ := hRW.2.2
            exact frozen_of_row _ _ _ _ _ hh
          have HRW := Lib.hid hRW; have HGW2 := Lib.hid hGW2; have HBW2 := Lib.hid hBW2; have HKD := Lib.hid hKD; have HRL := Lib.hid hrl
          clear hRW hGW2 hBW2 hKD hrl
          dsimp only
          gi_wp2
          have hg' := grown_setCell W bt x (.bool true)
          refine ⟨(KeepsOthers.setCell _ _ _).from _, ⟨(Below.refl 0 W).setCell (p := ⟨bt, x, none⟩) (Nat.zero_le _) _, ?_⟩, ⟨⟨HRW.out.keeps (fun t e => by cases e) (KeepsCells.turned HRW.out.2.2 hg') ?_, Lib.grownBy_trans HGW2.out hg'⟩, ?_, HKD.out.trans (KeepsDef.others (KeepsOthers.setCell _ _ _))⟩⟩
          · intro r hr
            refine set_other ?_
            simp at hr; omega
          · exact (HRW.out.2.2.set x (.bool true)).congr (fun j hj => by rw [nT_snoc]; split <;> rfl)
          · show _ = _
            rw [set_other (by omega)]
            exact HBW2.out
        case done =>
          rintro D ys W hD hS ⟨⟨hRW, hGW2⟩, hBW2, hKD⟩ hDW
          have hnew : nT ms L mt k (mAt ms k) ys = noteTo ms L mt (k + 1) := by
            rw [← noteTo_more ms L mt k hm1024 hmt]
            funext x
            show (_ || _) = (_ || _)
            rw [show vals (mAt ms k) ys = wornL (mAt ms k) L from hS]
          rw [hnew] at hRW
          have hM2 := Marks.cons hM0 hD (by omega) hDW hKD.2
          have h7 : w.heap.size < W.heap.size := by have := hKD.1; omega
          have HRW := Lib.hid hRW; have HGW2 := Lib.hid hGW2; have HBW2 := Lib.hid hBW2; have HM2 := Lib.hid hM2
          clear hRW hGW2 hBW2 hM2 hDW hKD hM0 hB0 hG0 hRT0 bM bL
          gi_wp2
          exact ⟨⟨k + 1, _, _, by omega, Fr75.mk, by go_num, HRW, HGW2, HBW2, h7, HM2⟩, by simp [atInt]; omega⟩
        case stop =>
          rintro D c pre W _ _ h _
          exact h.elim
    · obtain rfl : k = ms.length := by omega
      clear HR1 HG1 HB0 HM0 hsz
      gi_wp2
      refine marks_leave _ _ _ (by simp) (by omega) hMW.out (fun W' hW' => ?_)
      have hg2 : w.grownBy W' (some bt) := ⟨hW'.os.trans hGW.out.os, hW'.tape.trans hGW.out.tape, hW'.output.trans hGW.out.output, Nat.le_trans hGW.out.size hW'.size, fun i hi hne => (hW'.block i (by omega)).trans (hGW.out.block i hi hne)⟩
      refine ⟨_, results_none rfl _ _ _, rfl, ?_, hg2⟩
      rw [ints_length]
      refine HR.out.keeps (fun t e => by cases e) (KeepsCells.turned HR.out.2.2 hg2) ?_
      obtain ⟨c, hh, hc⟩ := hRT.out.2.2
      exact ⟨c, (hW'.block bt (by omega)).trans hh, hc⟩
end Go.Proofs.Ytlgdnbpboonhdaa
