/- Rules for code whose order of things is drawn (a range over a map): what may come out, in place of what comes out. -/
import Derived.Test.YtlnaibkpmklkiaaEvLp
import Derived.Maps.RangeRun
namespace Go.Proofs.Ytlnaibkpmklkiaa
open Go Go.RowKit
set_option linter.unusedSectionVars false
variable [Bs]
set_option linter.unusedVariables false
set_option linter.unusedSimpArgs false

/-- what a family's limit calls is right -/
theorem callOk_C {P : Program} {D : Nat → Option AFn} (hD : DOk P D) : CallOk P (evC D) := by
  refine ⟨fun f args r h => ?_, fun f args bl p bl' h => ?_⟩
  · obtain ⟨n, hn⟩ := evE_ex (D := D) h
    exact (evF_sound hD n).1 f args r hn
  · obtain ⟨n, hn⟩ := evS_ex (D := D) h
    exact (evF_sound hD n).2 f args bl p bl' hn

section
variable {P : Program} {call : Cl} {own : List Nat} {N : Nat}

def OWp (P : Program) (N : Nat) (o : Oper) (st : St) (Φ : St → Prop) : Prop :=
  ∀ (B k : Nat) (m : Mem) (w : World) (a : Act) (K : Act → World → Prop) (Q : Exit → Act → World → Prop), StOk B N m k w st a.tmps →
    (∀ st', Φ st' → ∀ m' k' w' a', Fin B N m w a st' m' k' w' a' → K a' w') → o.wp P a w K Q
def LWp (P : Program) (N : Nat) (ops : Array Oper) (l : List Oper) (st : St) (Φ : St → Prop) : Prop :=
  ∀ (B k : Nat) (m : Mem) (w : World) (a : Act) (Q : Exit → Act → World → Prop), StOk B N m k w st a.tmps →
    (∀ st', Φ st' → ∀ m' k' w' a', Fin B N m w a st' m' k' w' a' → Q .normal a' w') → wpList P ops Q l a w
def CWp (P : Program) (N : Nat) (c : Code) (st : St) (Φ : Out → Prop) : Prop :=
  ∀ (B k : Nat) (m : Mem) (w : World) (a : Act) (Q : Exit → Act → World → Prop), StOk B N m k w st a.tmps →
    (∀ out, Φ out → QOk B N m w a Q out) → c.wp P Q a w

theorem CWp.mono {c : Code} {st : St} {Φ Ψ : Out → Prop} (h : CWp P N c st Φ) (hm : ∀ o, Φ o → Ψ o) : CWp P N c st Ψ :=
  fun B k m w a Q hs hq => h B k m w a Q hs (fun o ho => hq o (hm o ho))

theorem CWp.ev (hc : CallOk P call) {n : Nat} {c : Code} {ks ks' : List (List Nat)} {ac : AC} {st : St} {out : Out} (hd : digCode P own c ks = some (ac, ks')) (he : evCode call n ac st = some out) : CWp P N c st (· = out) :=
  fun B k m w a Q hs hq => code_sound hc n c ks ks' ac hd st out a w m k Q he hs (hq out rfl)

theorem CWp.seq {x y : Code} {st : St} {Φ Ψ : Out → Prop} (hx : CWp P N x st Φ) (hy : ∀ st', Φ (.normal st') → CWp P N y st' Ψ) (he : ∀ id st', Φ (.exit id st') → Ψ (.exit id st')) (hr : ∀ st', Φ (.ret st') → Ψ (.ret st')) : CWp P N (.seq x y) st Ψ := by
  intro B k m w a Q hs hq
  refine wp_seq ?_
  refine hx B k m w a _ hs (fun out ho => ?_)
  cases out with
  | normal st1 => exact fun m1 k1 w1 a1 f => hy st1 ho B k1 m1 w1 a1 Q f.st (fun o h => (hq o h).step f.bel f.grow f.defers)
  | exit id st1 => exact hq _ (he id st1 ho)
  | ret st1 => exact hq _ (hr st1 ho)

theorem CWp.block {id : Nat} {x : Code} {st : St} {Φ Ψ : Out → Prop} (hx : CWp P N x st Φ) (hn : ∀ st', Φ (.normal st') → Ψ (.normal st')) (he : ∀ id' st', Φ (.exit id' st') → if id' = id then Ψ (.normal st') else Ψ (.exit id' st')) (hr : ∀ st', Φ (.ret st') → Ψ (.ret st')) : CWp P N (.block id x) st Ψ := by
  intro B k m w a Q hs hq
  refine wp_block ?_
  refine hx B k m w a _ hs (fun out ho => ?_)
  cases out with
  | normal st1 => exact hq _ (hn st1 ho)
  | exit id' st1 =>
    intro m1 k1 w1 a1 f
    have := he id' st1 ho
    show Exit.inBlock id Q (.exit id') a1 w1
    by_cases hid : id' = id
    · rw [if_pos hid] at this
      simp only [Exit.inBlock, hid, if_true]
      exact hq _ this m1 k1 w1 a1 f
    · rw [if_neg hid] at this
      simp only [Exit.inBlock, hid, if_false]
      exact hq _ this m1 k1 w1 a1 f
  | ret st1 => exact hq _ (hr st1 ho)

/-- a loop, by an invariant and a number that sinks -/
theorem CWp.loop {x : Code} {Ψ : Out → Prop} (R : Nat → St → Prop) (round : ∀ n st, R n st → CWp P N x st (fun | .normal st' => ∃ n', n' < n ∧ R n' st' | o => Ψ o)) {n : Nat} {st : St} (h : R n st) : CWp P N (.loop x) st Ψ := by
  intro B k m w a Q hs hq
  refine wp_loop_ind (R := fun q a1 w1 => ∃ st1 m1 k1, R q st1 ∧ StOk B N m1 k1 w1 st1 a1.tmps ∧ Below B w w1 ∧ Grow B N m m1 ∧ a1.defers = a.defers) ?_ (n := n) ⟨st, m, k, h, hs, Below.refl _ _, Grow.refl _ _ _, rfl⟩
  rintro q a1 w1 ⟨st1, m1, k1, h1, h2, h3, h4, h5⟩
  refine round q st1 h1 B k1 m1 w1 a1 _ h2 (fun out ho => ?_)
  cases out with
  | normal st2 =>
    obtain ⟨q', hlt, hR⟩ := ho
    exact fun m3 k3 w3 a3 f => ⟨q', hlt, st2, m3, k3, hR, f.st, h3.trans f.bel, h4.trans f.grow, f.defers.trans h5⟩
  | exit id st2 => exact (hq _ ho).step h3 h4 h5
  | ret st2 => exact (hq _ ho).step h3 h4 h5

theorem CWp.reg {id : Nat} {ops : Array Oper} {st : St} {Φ : St → Prop} (h : LWp P N ops ops.toList st Φ) : CWp P N (.region id ops false) st (fun o => ∃ st', o = .normal st' ∧ Φ st') :=
  fun B k m w a Q hs hq => wp_region_list (h B k m w a Q hs (fun st' hst => hq (.normal st') ⟨st', rfl, hst⟩))
theorem CWp.skip {st : St} : CWp P N .skip st (· = .normal st) :=
  fun B k m w a Q hs hq => wp_skip (hq _ rfl m k w a ⟨hs, Below.refl _ _, Grow.refl _ _ _, rfl⟩)

theorem LWp.nil {ops : Array Oper} {st : St} {Φ : St → Prop} (h : Φ st) : LWp P N ops [] st Φ :=
  fun B k m w a Q hs hq => hq st h m k w a ⟨hs, Below.refl _ _, Grow.refl _ _ _, rfl⟩
theorem LWp.cons {ops : Array Oper} {o : Oper} {l : List Oper} {st : St} {Φ Ψ : St → Prop} (hg : o.guard = none) (h : OWp P N o st Φ) (hl : ∀ st1, Φ st1 → LWp P N ops l st1 Ψ) : LWp P N ops (o :: l) st Ψ := by
  intro B k m w a Q hs hq
  unfold wpList
  rw [if_pos (by simp [Region.wanted, hg])]
  exact .inl (h B k m w a _ Q hs (fun st1 h1 m1 k1 w1 a1 f => hl st1 h1 B k1 m1 w1 a1 Q f.st (fun st' hst m' k' w' a' f' => hq st' hst m' k' w' a' (f.trans f'))))
theorem LWp.ev (hc : CallOk P call) {ops : Array Oper} {l : List Oper} {al : List AOper} {st st' : St} (hd : digOps P own ops l = some al) (he : evOps call al st = some st') : LWp P N ops l st (· = st') :=
  fun B k m w a Q hs hq => ops_seq hc l al hd st st' a w m k he hs (hq st' rfl)
theorem OWp.ev (hc : CallOk P call) {ops : Array Oper} {o : Oper} {ao : AOper} {st st' : St} (hd : digOper P own ops o = some ao) (he : evOp call st ao = some st') : OWp P N o st (· = st') :=
  fun B k m w a K Q hs hq => evOp_sound hc hd he hs (hq st' rfl)

theorem CWp.keepOnly {c : Code} {sl : List PV} {bl : Blks} {Φ : Out → Prop} (keep : List Nat) (h : CWp P N c ⟨forget keep 0 sl, bl⟩ Φ) : CWp P N c ⟨sl, bl⟩ Φ := by
  intro B k m w a Q hs hq
  obtain ⟨f1, f2⟩ := forget_get keep 0 sl
  refine h B k m w a Q ⟨by rw [f1]; exact hs.size, fun t => ?_, hs.eff, hs.nb, hs.nk⟩ hq
  rcases f2 t with h | h
  · show Rep m k ((forget keep 0 sl).getD t .top) _
    rw [List.getD_eq_getElem?_getD, h, ← List.getD_eq_getElem?_getD]; exact hs.sl t
  · show Rep m k ((forget keep 0 sl).getD t .top) _
    rw [h]; exact .top
theorem CWp.seqE (hc : CallOk P call) {n : Nat} {x y : Code} {ks ks' : List (List Nat)} {ac : AC} {st st1 : St} {Ψ : Out → Prop} (hd : digCode P own x ks = some (ac, ks')) (he : evCode call n ac st = some (.normal st1)) (hy : CWp P N y st1 Ψ) : CWp P N (.seq x y) st Ψ :=
  CWp.seq (CWp.ev hc hd he) (fun st' h => by cases h; exact hy) (fun id st' h => by cases h) (fun st' h => by cases h)
theorem CWp.seqR {x y : Code} {st : St} {Φ : St → Prop} {Ψ : Out → Prop} (hx : CWp P N x st (fun o => ∃ st', o = .normal st' ∧ Φ st')) (hy : ∀ st', Φ st' → CWp P N y st' Ψ) : CWp P N (.seq x y) st Ψ :=
  CWp.seq hx (fun st' h => by obtain ⟨s, h1, h2⟩ := h; cases h1; exact hy _ h2) (fun id st' h => by obtain ⟨s, h1, _⟩ := h; cases h1) (fun st' h => by obtain ⟨s, h1, _⟩ := h; cases h1)

/-- an object that is known as it stands -/
def exB (ver : Nat) (g : Nat) (ob : Obj) : Option Blk := some ⟨ver, iterE, true, [[.ob ob, .int .i64 (g : Int)]]⟩

/-- a map of one's own, taken as the object that it is -/
theorem map_exact {B k : Nat} {m : Mem} {w : World} {sl : List PV} {bl : Blks} {tmps : Array Value} {b ver : Nat} {bx : Blk} {x : Nat} (hs : StOk B N m k w ⟨sl, bl⟩ tmps) (hx : sl.getD x .top = .mp b ver) (hg : getM bl b ver = some bx) :
    ∃ es clock g, BornOk es clock ∧ (∃ m k, MapIn m k bx.rows es) ∧ tmps.getD x undef = .map (some g) ∧ w.heap[g]? = some (.map es clock) ∧ StOk B N m k w ⟨sl, bl.set b (exB ver g (.map es clock))⟩ tmps := by
  have rx := hs.sl x
  rw [hx] at rx
  obtain ⟨inf, g1, g2, g3, g4, g5⟩ := mp_inv rx
  obtain ⟨q1, q2, q3⟩ := getM_spec hg
  have hat := (hs.eff.own.at_ b bx inf q1 g2).map q3
  obtain ⟨es, clock, e1, e2, e3⟩ := hat.mem
  have hlt : b < bl.length := (List.getElem?_eq_some_iff.1 q1).1
  have hkey : ∀ (id : Nat) (x : Blk) (i : Info), (bl.set b (exB ver inf.g (.map es clock)))[id]? = some (some x) → m.blk id = some i → (id = b ∧ i = inf ∧ some x = exB ver inf.g (.map es clock)) ∨ bl[id]? = some (some x) := by
    intro id y i hy hi
    by_cases e : b = id
    · subst e
      rw [List.getElem?_set_self hlt] at hy
      rw [g2] at hi
      exact .inl ⟨rfl, by cases hi; rfl, (Option.some.inj hy).symm⟩
    · rw [List.getElem?_set_ne e] at hy
      exact .inr hy
  refine ⟨es, clock, inf.g, e3, ⟨m, _, e2⟩, g5 (hat.ver.trans q2), e1, hs.size, hs.sl, ⟨hs.eff.frz, ⟨fun id y i hy hi => ?_, fun id y i hy hi hv => ?_, fun id y i id' y' i' hy hi hy' hi' hv hv' hgg => ?_⟩, hs.eff.hB, fun id hid => hs.eff.fresh id (by simpa using hid)⟩, by simpa using hs.nb, hs.nk⟩
  · rcases hkey id y i hy hi with ⟨rfl, rfl, hyy⟩ | hy
    · unfold exB at hyy
      cases hyy
      exact .inr (.inr ⟨hat.ver.trans q2, rfl, hat.virt, _, e1, rfl, rfl⟩)
    · exact hs.eff.own.at_ id y i hy hi
  · rcases hkey id y i hy hi with ⟨rfl, rfl, hyy⟩ | hy
    · exact hs.eff.own.base id bx i q1 g2 hv
    · exact hs.eff.own.base id y i hy hi hv
  · rcases hkey id y i hy hi with ⟨u1, u2, _⟩ | z1 <;> rcases hkey id' y' i' hy' hi' with ⟨h1, h2, _⟩ | z2
    · exact u1.trans h1.symm
    · exact hs.eff.own.inj id bx i id' y' i' (by rw [u1]; exact q1) hi z2 hi' hv hv' hgg
    · exact hs.eff.own.inj id y i id' bx i' z1 hi (by rw [h1]; exact q1) hi' hv hv' hgg
    · exact hs.eff.own.inj id y i id' y' i' z1 hi z2 hi' hv hv' hgg

theorem CWp.exact {c : Code} {sl : List PV} {bl : Blks} {b ver : Nat} {bx : Blk} {x : Nat} {Φ : Out → Prop} (hx : sl.getD x .top = .mp b ver) (hg : getM bl b ver = some bx)
    (h : ∀ es clock g, BornOk es clock → (∃ m k, MapIn m k bx.rows es) → CWp P N c ⟨sl, bl.set b (exB ver g (.map es clock))⟩ Φ) : CWp P N c ⟨sl, bl⟩ Φ := by
  intro B k m w a Q hs hq
  obtain ⟨es, clock, g, h1, h2, h3, h4, h5⟩ := map_exact hs hx hg
  exact h es clock g h1 h2 B k m w a Q h5 hq

/-- what is known of a block that is known as it stands -/
theorem ex_at {B k : Nat} {m : Mem} {w : World} {bl : Blks} {b ver g : Nat} {ob : Obj} {i : Info} (ho : Owns B m k w bl) (hb : bl[b]? = some (exB ver g ob)) (hi : m.blk b = some i) : i.ver = ver ∧ i.virt = false ∧ i.g = g ∧ w.heap[g]? = some ob := by
  obtain ⟨ob', h1, h2, h3⟩ := ((ho.at_ b _ i hb hi).obj rfl).mem
  have e1 := ((ho.at_ b _ i hb hi).obj rfl).ver
  have e2 := ((ho.at_ b _ i hb hi).obj rfl).virt
  simp only [List.cons.injEq, PV.ob.injEq, PV.int.injEq, and_true, true_and] at h3
  obtain ⟨rfl, h4⟩ := h3
  have : i.g = g := by omega
  subst this
  exact ⟨e1, e2, rfl, h1⟩

/-- range over a map that is known as it stands -/
theorem OWp.range {o : Oper} {t K E : TypeId} {x d b ver g : Nat} {es : Array MapEntry} {clock : Nat} {sl : List PV} {bl : Blks} {y : PV} (h : o.op = .range t (.tmp x)) (hd : o.dst = some d) (ht : P.underlying t = some (.map K E)) (hx : sl.getD x .top = .mp b ver) (hb : bl[b]? = some (exB ver g (.map es clock))) :
    OWp P N o ⟨sl, bl⟩ (fun st' => ∃ r, st' = ⟨sl.set d (.ptr bl.length 0 0 0), bl ++ [exB 0 r (.mapIter (some g) clock #[] clock)]⟩) := by
  intro B k m w a K' Q hs hn
  have rx := hs.sl x
  rw [hx] at rx
  obtain ⟨inf, g1, g2, g3, g4, g5⟩ := mp_inv rx
  obtain ⟨f1, f2, f3, f4⟩ := ex_at hs.eff.own hb g2
  subst f3
  have hav : a.tmps.getD x undef = .map (some inf.g) := g5 f1
  have hev : a.eval (.tmp x) = .map (some inf.g) := hav
  have hrun : (execOp a.eval o).run P w = .ok (.value (.pointer (some ⟨w.heap.size, 0, none⟩))) (w.alloc (.mapIter (some inf.g) clock #[] clock)) := by
    have := run_range_map (P := P) w t K E inf.g es clock ht f4
    simp only [execOp, h]
    rw [hev]
    exact run_value this
  have hBL : Owns B m k w (bl ++ [some ⟨0, iterE, true, [[.ob (.mapIter (some inf.g) clock #[] clock), .int .i64 (w.heap.size : Int)]]⟩].map id) := by
    have := hs.eff.own.more (ns := [⟨0, iterE, true, [[.ob (.mapIter (some inf.g) clock #[] clock), .int .i64 (w.heap.size : Int)]]⟩]) hs.eff.fresh
    simpa using this
  have hout := PurOut.newA (n0 := bl.length) (p := .ptr bl.length 0 0 0) (v := .pointer (some ⟨w.heap.size, 0, none⟩)) (x := ⟨0, iterE, true, [[.ob (.mapIter (some inf.g) clock #[] clock), .int .i64 (w.heap.size : Int)]]⟩) ⟨w.heap.size, 0, iterE, 0, 0, false⟩ hs.eff.frz hBL hs.eff.hB
    (by simp) (hs.eff.fresh bl.length (Nat.le_refl _)) ((Below.refl _ _).alloc (Nat.le_refl _) (.mapIter (some inf.g) clock #[] clock))
    (.inr (.inr ⟨rfl, rfl, rfl, _, heap_alloc_new w _, rfl, rfl⟩)) (fun _ => Nat.le_refl _) (.ptr (by omega) (Mem.addBlk_same _ _ _) (Nat.le_refl _) rfl (fun _ _ => by simp))
  refine wp_of_run hrun (hn _ ⟨w.heap.size, rfl⟩ _ _ _ _ ⟨⟨?_, ?_, ⟨hout.frz, by simpa [exB] using hout.own, Nat.le_trans hs.eff.hB hout.bel.size, fun id hid => ?_⟩, by simp only [List.length_append]; exact Nat.le_trans hs.nb (Nat.le_add_right _ _), Nat.le_trans hs.nk hout.kk⟩, hout.bel.mono hs.eff.hB, ⟨hout.keep.cell, fun b o v hv => ?_, fun b i _ hi => ⟨i, hout.keep.blk b i hi, .inl rfl⟩⟩, by rw [hd]; rfl⟩)
  · rw [hd]; exact (getD_put hs.size hs.sl hout.keep.mle hout.kk hout.rep a rfl (d := some d)).1
  · rw [hd]; exact (getD_put hs.size hs.sl hout.keep.mle hout.kk hout.rep a rfl (d := some d)).2
  · simp only [List.length_append, List.length_cons, List.length_nil] at hid
    rcases hout.blk id with h | h
    · rw [h]; exact hs.eff.fresh id (show bl.length ≤ id by omega)
    · omega
  · rcases hout.cel b o v hv with h | h
    · exact .inl h
    · exact .inr (Nat.le_trans hs.eff.hB h)

theorem ptr_ev {B k : Nat} {m : Mem} {w : World} {sl : List PV} {bl : Blks} {tmps : Array Value} {it ib r : Nat} {ob : Obj} (hs : StOk B N m k w ⟨sl, bl⟩ tmps) (hit : sl.getD it .top = .ptr ib 0 0 0) (hb : bl[ib]? = some (exB 0 r ob)) :
    ∃ inf, ib < k ∧ m.blk ib = some inf ∧ inf.virt = false ∧ inf.g = r ∧ inf.ver = 0 ∧ w.heap[r]? = some ob ∧ tmps.getD it undef = .pointer (some ⟨r, 0, none⟩) := by
  have rx := hs.sl it
  rw [hit] at rx
  obtain ⟨inf, g1, g2, g3, g4, g5⟩ := ptr_inv rx
  obtain ⟨f1, f2, f3, f4⟩ := ex_at hs.eff.own hb g2
  subst f3
  refine ⟨inf, g1, g2, f2, rfl, f1, f4, ?_⟩
  have := g5 f1 f2
  simpa using this

/-- the next entry, whichever -/
theorem OWp.next {o : Oper} {it d ib b ver g r since c0 : Nat} {seen : Array Nat} {es : Array MapEntry} {clock : Nat} {sl : List PV} {bl : Blks} (h : o.op = .next (.tmp it) false) (hd : o.dst = some d) (hit : sl.getD it .top = .ptr ib 0 0 0)
    (hib : bl[ib]? = some (exB 0 r (.mapIter (some g) since seen c0))) (hb : bl[b]? = some (exB ver g (.map es clock))) (hbx : ∃ x, sl.getD x .top = .mp b ver) (hold : ∀ e ∈ es.toList, e.born < since) (hsc : since ≤ c0) :
    OWp P N o ⟨sl, bl⟩ (fun st' => ((leftOf es seen).size = 0 ∧ st' = ⟨sl.set d (.tup [.bool false]), bl⟩) ∨
      ∃ e ∈ (leftOf es seen).toList, st' = ⟨sl.set d (.tup [.bool true, ofVal e.key, ofVal e.val]), bl.set ib (exB 0 r (.mapIter (some g) since (seen.push e.born) clock))⟩) := by
  intro B k m w a K' Q hs hn
  obtain ⟨inf, p1, p2, p3, p4, p5, p6, p7⟩ := ptr_ev hs hit hib
  obtain ⟨x, hx⟩ := hbx
  have rx := hs.sl x
  rw [hx] at rx
  obtain ⟨jnf, g1, g2, g3, g4, g5⟩ := mp_inv rx
  obtain ⟨f1, f2, f3, f4⟩ := ex_at hs.eff.own hb g2
  have hev : a.eval (.tmp it) = .pointer (some ⟨r, 0, none⟩) := p7
  have hlt : ib < bl.length := (List.getElem?_eq_some_iff.1 hib).1
  rcases run_next_at (P := P) w o.type r g since c0 seen es clock p6 f4 hold hsc with ⟨h0, hrun⟩ | ⟨e, he, w1, hw1, hrun⟩
  · have hrun' : (execOp a.eval o).run P w = .ok (.value (.tuple #[.bool false])) w := by
      simp only [execOp, h]
      rw [hev]
      exact run_value hrun
    have hrep : Rep m k (.tup [.bool false]) (.tuple #[.bool false]) := .tup rfl (fun i p hp => by
      match i with
      | 0 => simp at hp; subst hp; exact .bool
      | i + 1 => simp at hp)
    have hp := getD_put (d := some d) hs.size hs.sl (MLe.refl _ _) (Nat.le_refl _) hrep a rfl
    exact wp_of_run hrun' (hn _ (.inl ⟨h0, rfl⟩) m k w _ ⟨⟨by rw [hd]; exact hp.1, by rw [hd]; exact hp.2, hs.eff, hs.nb, hs.nk⟩, Below.refl _ _, Grow.refl _ _ _, by rw [hd]; rfl⟩)
  · have hrun' : (execOp a.eval o).run P w = .ok (.value (.tuple #[.bool true, e.key, e.val])) (Go.ChangeMaps.setBlock w1 r (.mapIter (some g) since (seen.push e.born) clock)) := by
      simp only [execOp, h]
      rw [hev]
      exact run_value hrun
    have hw : w1.heap = w.heap := by rcases hw1 with rfl | rfl <;> rfl
    have hbw : w1.os = w.os ∧ w1.tape = w.tape ∧ w1.output = w.output := by rcases hw1 with rfl | rfl <;> exact ⟨rfl, rfl, rfl⟩
    have hset := MapKept.heap_set (o' := Obj.mapIter (some g) since (seen.push e.born) clock) p6
    have hsame : m.addBlk ib inf = m := by
      unfold Mem.addBlk
      congr 1
      funext j
      split
      · rename_i hj; rw [hj, p2]
      · rfl
    have hheap : (Go.ChangeMaps.setBlock w1 r (.mapIter (some g) since (seen.push e.born) clock)).heap = w.heap.setIfInBounds r (.mapIter (some g) since (seen.push e.born) clock) := by
      show w1.heap.setIfInBounds r _ = _
      rw [hw]
    have hrep : Rep m k (.tup [.bool true, ofVal e.key, ofVal e.val]) (.tuple #[.bool true, e.key, e.val]) := .tup rfl (fun i p hp => by
      match i with
      | 0 => simp at hp; subst hp; exact .bool
      | 1 => simp at hp; subst hp; exact (rep_ofVal m e.key).up (Nat.zero_le _)
      | 2 => simp at hp; subst hp; exact (rep_ofVal m e.val).up (Nat.zero_le _)
      | i + 3 => simp at hp)
    have hout : EffOut B k m w bl (bl.set ib (exB 0 r (.mapIter (some g) since (seen.push e.born) clock))) (.tup [.bool true, ofVal e.key, ofVal e.val]) (.tuple #[.bool true, e.key, e.val]) (m.addBlk ib inf) (Go.ChangeMaps.setBlock w1 r (.mapIter (some g) since (seen.push e.born) clock)) k := by
      refine EffOut.putA (id := ib) (x' := ⟨0, iterE, true, [[.ob (.mapIter (some g) since (seen.push e.born) clock), .int .i64 (r : Int)]]⟩) inf hs.eff (by rw [List.getElem?_set_self hlt]; rfl) (fun j hj => by rw [List.getElem?_set_ne (fun e => hj e.symm)]) (Nat.le_refl _) (by simp)
        (fun b' _ hb' => ?_) ⟨hbw.1, hbw.2.1, hbw.2.2, by rw [hheap]; simp, fun j hj => ?_⟩ (fun i _ hi => .inl (by rw [p2] at hi; cases hi; rfl))
        (.inr (.inr ⟨p5, rfl, p3, _, by rw [hheap, p4]; exact hset.1, rfl, by rw [p4]⟩)) (fun _ => .inr ⟨_, inf, hib, p2, p3, rfl⟩) (by rw [hsame]; exact hrep)
      · rw [hheap]
        refine hset.2 b' ?_
        have := hb' _ inf hib p2 p3
        rw [p4] at this
        exact this
      · rw [hheap]
        refine hset.2 j ?_
        have := (hs.eff.own.base ib _ inf hib p2 p3).1
        rw [p4] at this
        omega
    have hp := getD_put (d := some d) hs.size hs.sl hout.le hout.kk hout.rep a rfl
    exact wp_of_run hrun' (hn _ (.inr ⟨e, he, rfl⟩) _ _ _ _ ⟨⟨by rw [hd]; exact hp.1, by rw [hd]; exact hp.2, ⟨hout.frz, hout.own, Nat.le_trans hs.eff.hB hout.bel.size, hout.fresh⟩, Nat.le_trans hs.nb hout.len, Nat.le_trans hs.nk hout.kk⟩, hout.bel, ⟨hout.le.cell, hout.cel, fun b i _ hi => by
      rw [hsame]; exact ⟨i, hi, .inl rfl⟩⟩, by rw [hd]; rfl⟩)

/-- the entry that the last step handed out -/
theorem OWp.entry {o : Oper} {it d ib b ver g r since : Nat} {seen : Array Nat} {es : Array MapEntry} {clock : Nat} {e : MapEntry} {sl : List PV} {bl : Blks} (h : o.op = .entry (.tmp it)) (hd : o.dst = some d) (hit : sl.getD it .top = .ptr ib 0 0 0)
    (hib : bl[ib]? = some (exB 0 r (.mapIter (some g) since (seen.push e.born) clock))) (hb : bl[b]? = some (exB ver g (.map es clock))) (hbx : ∃ x, sl.getD x .top = .mp b ver) (he : e ∈ es.toList) (hn' : (es.toList.map (·.born)).Nodup) :
    OWp P N o ⟨sl, bl⟩ (fun st' => st' = ⟨sl.set d (.tup [ofVal e.key, ofVal e.val]), bl⟩) := by
  intro B k m w a K' Q hs hn
  obtain ⟨inf, p1, p2, p3, p4, p5, p6, p7⟩ := ptr_ev hs hit hib
  obtain ⟨x, hx⟩ := hbx
  have rx := hs.sl x
  rw [hx] at rx
  obtain ⟨jnf, g1, g2, g3, g4, g5⟩ := mp_inv rx
  obtain ⟨f1, f2, f3, f4⟩ := ex_at hs.eff.own hb g2
  have hev : a.eval (.tmp it) = .pointer (some ⟨r, 0, none⟩) := p7
  have hrun := run_entry_at (P := P) w r g since seen es clock e p6 f4 he hn'
  have hrun' : (execOp a.eval o).run P w = .ok (.value (.tuple #[e.key, e.val])) w := by
    simp only [execOp, h]
    rw [hev]
    exact run_value hrun
  have hrep : Rep m k (.tup [ofVal e.key, ofVal e.val]) (.tuple #[e.key, e.val]) := .tup rfl (fun i p hp => by
    match i with
    | 0 => simp at hp; subst hp; exact (rep_ofVal m e.key).up (Nat.zero_le _)
    | 1 => simp at hp; subst hp; exact (rep_ofVal m e.val).up (Nat.zero_le _)
    | i + 2 => simp at hp)
  have hp := getD_put (d := some d) hs.size hs.sl (MLe.refl _ _) (Nat.le_refl _) hrep a rfl
  exact wp_of_run hrun' (hn _ rfl m k w _ ⟨⟨by rw [hd]; exact hp.1, by rw [hd]; exact hp.2, hs.eff, hs.nb, hs.nk⟩, Below.refl _ _, Grow.refl _ _ _, by rw [hd]; rfl⟩)

/-- A FUNCTION OF WHICH ONLY THIS IS SAID: what its code can end with is one and the same -/
theorem extOk_wp {f : Nat} {fn : Func} {c : Code} {res : List RV} {x : List PV → Option PV} (hf : P.funcs[f]? = some fn) (hb : fn.body = some c) (hres : digRes P fn.results.toList = some res) (hname : fn.name ≠ "runtime.NumGoroutine")
    (h : ∀ args r, x args = some r → args.length = fn.params.size + fn.nfree ∧ CWp P 0 c ⟨args ++ List.replicate (fn.ntmps - (fn.params.size + fn.nfree)) .top, []⟩ (fun out => endP res (some out) = some r)) : ExtOk P f x := by
  refine extOk_of fun args r hx => ⟨⟨fn, hf, by rw [hb]; rfl, hname⟩, fun m w vs hl hargs hfrz => ?_⟩
  obtain ⟨hnp, hwp⟩ := h args r hx
  refine calls_of_wp hf hb ?_
  obtain ⟨q1, q2⟩ := args_slots (m := ⟨m.cell, noBlk⟩) (k := 0) (nt := fn.ntmps) hl (fun i p hp => (hargs i p hp).re (fun _ _ _ h => h)) hnp
  have hs : StOk w.heap.size 0 ⟨m.cell, noBlk⟩ 0 w ⟨args ++ List.replicate (fn.ntmps - (fn.params.size + fn.nfree)) .top, []⟩ (vs ++ Array.replicate (fn.ntmps - vs.size) undef) :=
    ⟨q1, q2, ⟨⟨fun b o u hu => hfrz.1 b o u hu, hfrz.2⟩, ⟨fun id x i hx => by simp at hx, fun id x i hx => by simp at hx, fun id x i id' x' i' hx => by simp at hx⟩, Nat.le_refl _, fun _ _ => rfl⟩, Nat.zero_le _, Nat.le_refl _⟩
  have fin : ∀ (st' : St) (p : PV), resO st' res = some p → expoAll st'.bl p = some r → ∀ m' k' w' a', Fin w.heap.size 0 ⟨m.cell, noBlk⟩ w { tmps := vs ++ Array.replicate (fn.ntmps - vs.size) undef, defers := [] } st' m' k' w' a' →
      a'.defers = [] ∧ ∃ v, (results fn a'.tmps).run P w' = .ok v w' ∧ (fun e w' => ∃ v, e = Ending.returned v ∧ RetOk m w w' r v) (.returned v) w' := by
    intro st' p hp hex m' k' w' a' f
    obtain ⟨v, h1, h2⟩ := res_run (P := P) hres f.st.sl f.st.eff hp
    exact ⟨f.defers, v, h1, v, rfl, ret_ok hex h2 f.st.eff.frz f.st.eff.own f.bel ⟨fun b o u hu => f.grow.cell b o u hu, fun b o u hu => f.grow.from_ b o u hu, fun b i hb => absurd hb (Nat.not_lt_zero _)⟩⟩
  refine hwp w.heap.size 0 ⟨m.cell, noBlk⟩ w _ _ hs (fun out hout => ?_)
  cases out with
  | normal st' =>
    simp only [endP] at hout
    split at hout
    · rename_i p hp; exact fun m' k' w' a' f => fin st' p hp hout m' k' w' a' f
    · cases hout
  | ret st' =>
    simp only [endP] at hout
    split at hout
    · rename_i p hp; exact fun m' k' w' a' f => fin st' p hp hout m' k' w' a' f
    · cases hout
  | exit id st' => simp [endP] at hout

end
end Go.Proofs.Ytlnaibkpmklkiaa
