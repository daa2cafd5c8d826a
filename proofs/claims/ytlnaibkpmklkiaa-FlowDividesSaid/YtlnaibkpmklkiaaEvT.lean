/- Regions in the text's order. -/
import Derived.Test.YtlnaibkpmklkiaaEvS
namespace Go.Proofs.Ytlnaibkpmklkiaa
open Go Go.RowKit
set_option linter.unusedSectionVars false
variable [Bs]
set_option linter.unusedVariables false
set_option linter.unusedSimpArgs false

structure StOk (B N : Nat) (m : Mem) (k : Nat) (w : World) (st : St) (tmps : Array Value) : Prop where
  size : tmps.size = st.sl.length
  sl : ∀ t, Rep m k (st.sl.getD t .top) (tmps.getD t undef)
  eff : EffIn B k m w st.bl
  nb : N ≤ st.bl.length
  nk : N ≤ k

structure Grow (B N : Nat) (m m' : Mem) : Prop where
  cell : ∀ b o v, m.cell b o = some v → m'.cell b o = some v
  from_ : ∀ b o v, m'.cell b o = some v → m.cell b o = some v ∨ B ≤ b
  blk : ∀ b i, b < N → m.blk b = some i → ∃ i', m'.blk b = some i' ∧ (i' = i ∨ i.ver < i'.ver)
theorem Grow.refl (B N : Nat) (m : Mem) : Grow B N m m := ⟨fun _ _ _ h => h, fun _ _ _ h => .inl h, fun _ i _ h => ⟨i, h, .inl rfl⟩⟩
theorem Grow.mle {B N : Nat} {m m' : Mem} (h : Grow B N m m') : MLe N m m' := ⟨h.cell, h.blk⟩
theorem Grow.trans {B N : Nat} {a b c : Mem} (h : Grow B N a b) (h' : Grow B N b c) : Grow B N a c :=
  ⟨fun x o v e => h'.cell _ _ _ (h.cell _ _ _ e), fun x o v e => by
    rcases h'.from_ _ _ _ e with e | e
    · exact h.from_ _ _ _ e
    · exact .inr e, (h.mle.trans h'.mle).blk⟩

/-- a state reached -/
structure Fin (B N : Nat) (m : Mem) (w : World) (a : Act) (st' : St) (m' : Mem) (k' : Nat) (w' : World) (a' : Act) : Prop where
  st : StOk B N m' k' w' st' a'.tmps
  bel : Below B w w'
  grow : Grow B N m m'
  defers : a'.defers = a.defers

theorem Fin.trans {B N : Nat} {m m1 m2 : Mem} {w w1 w2 : World} {a a1 a2 : Act} {s1 s2 : St} {k1 k2 : Nat} (h : Fin B N m w a s1 m1 k1 w1 a1) (h' : Fin B N m1 w1 a1 s2 m2 k2 w2 a2) : Fin B N m w a s2 m2 k2 w2 a2 :=
  ⟨h'.st, h.bel.trans h'.bel, h.grow.trans h'.grow, h'.defers.trans h.defers⟩

theorem getD_put {sl : List PV} {tmps : Array Value} {m m' : Mem} {k k' : Nat} {d : Option Nat} {p : PV} {v : Value} (hs : tmps.size = sl.length) (hr : ∀ t, Rep m k (sl.getD t .top) (tmps.getD t undef)) (hm : MLe k m m') (hk : k ≤ k') (hp : Rep m' k' p v) (a : Act) (ha : a.tmps = tmps) :
    (a.put d v).tmps.size = (putP sl d p).length ∧ ∀ t, Rep m' k' ((putP sl d p).getD t .top) ((a.put d v).tmps.getD t undef) := by
  subst ha
  cases d with
  | none => exact ⟨hs, fun t => ((hr t).mono hm).up hk⟩
  | some d =>
    refine ⟨by simp [Act.put, putP, hs], fun t => ?_⟩
    have := ((hr t).mono hm).up hk
    simp only [Act.put, putP]
    rw [Array.getD_eq_getD_getElem?, List.getD_eq_getElem?_getD] at this ⊢
    by_cases e : d = t
    · subst e
      by_cases hlt : d < sl.length
      · rw [List.getElem?_set_self hlt, Array.getElem?_setIfInBounds_self_of_lt (by omega)]
        exact hp
      · rw [List.getElem?_eq_none (by simp; omega), Array.getElem?_eq_none (by simp; omega)]
        exact .top
    · rw [List.getElem?_set_ne e, Array.getElem?_setIfInBounds_ne e]
      exact this

theorem Owns.more {B k : Nat} {m : Mem} {w : World} {bl : Blks} {ns : List Blk} (h : Owns B m k w bl) (hf : ∀ id, bl.length ≤ id → m.blk id = none) : Owns B m k w (bl ++ ns.map some) := by
  have key : ∀ id x i, (bl ++ ns.map some)[id]? = some (some x) → m.blk id = some i → bl[id]? = some (some x) := fun id x i hx hi => by
    by_cases hc : id < bl.length
    · rwa [List.getElem?_append_left hc] at hx
    · rw [hf id (by omega)] at hi; cases hi
  exact ⟨fun id x i hx hi => h.at_ id x i (key id x i hx hi) hi, fun id x i hx hi => h.base id x i (key id x i hx hi) hi,
    fun id x i id' x' i' hx hi hx' hi' => h.inj id x i id' x' i' (key id x i hx hi) hi (key id' x' i' hx' hi') hi'⟩

section
variable {P : Program} {call : Cl} {own : List Nat}

theorem digOper_spec {ops : Array Oper} {o : Oper} {ao : AOper} (h : digOper P own ops o = some ao) :
    digOp P own o = some ao.op ∧ ao.dst = o.dst ∧ ((o.guard = none ∧ ao.guard = none) ∨ ∃ j want s, o.guard = some (j, want) ∧ (ops[j]?).bind (·.dst) = some s ∧ ao.guard = some (s, want)) := by
  unfold digOper at h
  split at h
  · rename_i a ha
    split at h
    · rename_i hg
      cases h
      exact ⟨ha, rfl, .inl ⟨hg, rfl⟩⟩
    · rename_i j want hg
      split at h
      · rename_i s hs
        cases h
        exact ⟨ha, rfl, .inr ⟨j, want, s, hg, hs, rfl⟩⟩
      · cases h
  · cases h

/-- whether an operation is wanted, by the slot that guards it -/
theorem wanted_iff {ops : Array Oper} {o : Oper} {ao : AOper} {tmps : Array Value} (hd : digOper P own ops o = some ao) :
    (ao.guard = none → Region.wanted o (yielded ops tmps) = true) ∧ (∀ s want b, ao.guard = some (s, want) → tmps.getD s undef = .bool b → Region.wanted o (yielded ops tmps) = decide (b = want)) ∧
    ∀ s want cs, ao.guard = some (s, want) → tmps.getD s undef = .tuple cs → Region.wanted o (yielded ops tmps) = false := by
  obtain ⟨_, _, hg⟩ := digOper_spec hd
  rcases hg with ⟨h1, h2⟩ | ⟨j, want, s, h1, h2, h3⟩
  · exact ⟨fun _ => by simp [Region.wanted, h1], (fun s want b h => by rw [h2] at h; cases h), (fun s want b h => by rw [h2] at h; cases h)⟩
  · refine ⟨(fun h => by rw [h3] at h; cases h), fun s' want' b h hv => ?_, fun s' want' cs h hv => ?_⟩
    rotate_left
    · rw [h3] at h
      cases h
      have hy : yielded ops tmps j = none := by
        unfold yielded
        rw [h2]
        rw [Array.getD_eq_getD_getElem?] at hv
        simp only [Option.bind_some]
        cases hx : tmps[s]? with
        | none => rfl
        | some v => rw [hx] at hv; simp at hv; rw [hv]
      simp only [Region.wanted, h1, hy]
      rfl
    rw [h3] at h
    cases h
    have hs : tmps[s]? = some (.bool b) := by
      rw [Array.getD_eq_getD_getElem?] at hv
      cases hx : tmps[s]? with
      | none => rw [hx] at hv; simp [undef] at hv
      | some v => rw [hx] at hv; simpa using hv
    have hy : yielded ops tmps j = some b := by
      unfold yielded
      rw [h2]
      simp only [Option.bind_some, hs]
    simp only [Region.wanted, h1, hy]
    cases b <;> cases want <;> rfl

/-- one operation -/
theorem evOp_sound (hc : CallOk P call) {ops : Array Oper} {o : Oper} {ao : AOper} {B N k : Nat} {m : Mem} {w : World} {st st' : St} {a : Act} {K : Act → World → Prop} {Q : Exit → Act → World → Prop}
    (hd : digOper P own ops o = some ao) (he : evOp call st ao = some st') (hs : StOk B N m k w st a.tmps) (hn : ∀ m' k' w' a', Fin B N m w a st' m' k' w' a' → K a' w') : o.wp P a w K Q := by
  obtain ⟨h1, h2, _⟩ := digOper_spec hd
  unfold evOp at he
  split at he
  · split at he
    · rename_i p bl' hev
      cases he
      refine eff_sound hc o ao.op B k m w st.sl st.bl bl' a p K Q h1 hev (fun t _ => hs.sl t) hs.eff (fun v m' w' k' hout => hn m' k' w' _ ⟨⟨?_, ?_, ⟨hout.frz, hout.own, Nat.le_trans hs.eff.hB hout.bel.size, hout.fresh⟩, Nat.le_trans hs.nb hout.len, Nat.le_trans hs.nk hout.kk⟩, hout.bel, ⟨hout.le.cell, hout.cel, fun b i hb hi => hout.le.blk b i (Nat.lt_of_lt_of_le hb hs.nk) hi⟩, by cases o.dst <;> rfl⟩)
      · rw [h2]; exact (getD_put hs.size hs.sl hout.le hout.kk hout.rep a rfl).1
      · rw [h2]; exact (getD_put hs.size hs.sl hout.le hout.kk hout.rep a rfl).2
    · cases he
  · split at he
    · rename_i p ns hev
      cases he
      refine pur_sound hc o ao.op B k m w st.sl st.bl (st.bl ++ ns.map some) a p ns K Q h1 hev (fun t _ => hs.sl t) ⟨hs.eff.frz, hs.eff.own.more hs.eff.fresh, hs.eff.hB, fun j x hx => hx, fun j hj => hs.eff.fresh _ (by omega)⟩
        (fun v m' w' k' hout => hn m' k' w' _ ⟨⟨?_, ?_, ⟨hout.frz, hout.own, Nat.le_trans hs.eff.hB hout.bel.size, fun id hid => ?_⟩, by simp only [List.length_append]; exact Nat.le_trans hs.nb (Nat.le_add_right _ _), Nat.le_trans hs.nk hout.kk⟩, hout.bel.mono hs.eff.hB, ⟨hout.keep.cell, fun b o v hv => ?_, fun b i _ hi => ⟨i, hout.keep.blk b i hi, .inl rfl⟩⟩, by cases o.dst <;> rfl⟩)
      · rw [h2]; exact (getD_put hs.size hs.sl hout.keep.mle hout.kk hout.rep a rfl).1
      · rw [h2]; exact (getD_put hs.size hs.sl hout.keep.mle hout.kk hout.rep a rfl).2
      · simp only [List.length_append, List.length_map] at hid
        rcases hout.blk id with h | h
        · rw [h]; exact hs.eff.fresh id (by omega)
        · omega
      · rcases hout.cel b o v hv with h | h
        · exact .inl h
        · exact .inr (Nat.le_trans hs.eff.hB h)
    · cases he

theorem Fin.skip {B N k : Nat} {m : Mem} {w : World} {st : St} {a : Act} {d : Option Nat} (hs : StOk B N m k w st a.tmps) : Fin B N m w a ⟨putP st.sl d (.v (.tuple #[])), st.bl⟩ m k w (a.put d undef) :=
  ⟨⟨(getD_put hs.size hs.sl (MLe.refl _ _) (Nat.le_refl _) (.v (x := undef)) a rfl).1, (getD_put hs.size hs.sl (MLe.refl _ _) (Nat.le_refl _) (.v (x := undef)) a rfl).2, hs.eff, hs.nb, hs.nk⟩, Below.refl _ _, Grow.refl _ _ _, by cases d <;> rfl⟩

theorem ops_seq (hc : CallOk P call) {ops : Array Oper} {B N : Nat} {Q : Exit → Act → World → Prop} : ∀ (l : List Oper) (al : List AOper), digOps P own ops l = some al → ∀ (st st' : St) (a : Act) (w : World) (m : Mem) (k : Nat),
    evOps call al st = some st' → StOk B N m k w st a.tmps → (∀ m' k' w' a', Fin B N m w a st' m' k' w' a' → Q .normal a' w') → wpList P ops Q l a w
  | [], al, hd, st, st', a, w, m, k, he, hs, hq => by
    simp [digOps] at hd
    subst hd
    simp [evOps] at he
    subst he
    exact hq m k w a ⟨hs, Below.refl _ _, Grow.refl _ _ _, rfl⟩
  | o :: l, al, hd, st, st', a, w, m, k, he, hs, hq => by
    simp only [digOps] at hd
    split at hd
    · rename_i ao al' h1 h2
      cases hd
      simp only [evOps] at he
      split at he
      · rename_i st1 h3
        have ih := fun (m1 : Mem) (k1 : Nat) (w1 : World) (a1 : Act) (hf : Fin B N m w a st1 m1 k1 w1 a1) => ops_seq hc (Q := Q) l al' h2 st1 st' a1 w1 m1 k1 he hf.st (fun m' k' w' a' hf' => hq m' k' w' a' (hf.trans hf'))
        obtain ⟨_, hdst, _⟩ := digOper_spec h1
        obtain ⟨w1, w2, w3⟩ := wanted_iff (tmps := a.tmps) h1
        unfold wpList
        unfold evOne at h3
        split at h3
        · rename_i hg
          rw [if_pos (w1 hg)]
          exact .inl (evOp_sound hc h1 h3 hs ih)
        · rename_i s want hg
          split at h3
          · rename_i b hb
            have rb := hs.sl s
            rw [hb] at rb
            rw [w2 s want b hg (bool_inv rb)]
            split at h3
            · rename_i hbw
              rw [if_pos (by simpa using hbw)]
              exact .inl (evOp_sound hc h1 h3 hs ih)
            · rename_i hbw
              rw [if_neg (by simpa using hbw)]
              cases h3
              rw [← hdst]
              exact ih m k w _ (Fin.skip hs)
          · rename_i cs hb
            have rb := hs.sl s
            rw [hb] at rb
            rw [w3 s want cs hg (v_inv rb)]
            rw [if_neg (by simp)]
            cases h3
            rw [← hdst]
            exact ih m k w _ (Fin.skip hs)
          · cases h3
      · cases he
    · cases hd

end
end Go.Proofs.Ytlnaibkpmklkiaa
