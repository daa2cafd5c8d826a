/- Code, functions, and what a function hands out. -/
import Derived.Test.YtlnaibkpmklkiaaEvW
namespace Go.Proofs.Ytlnaibkpmklkiaa
open Go Go.RowKit
set_option linter.unusedSectionVars false
variable [Bs]
set_option linter.unusedVariables false
set_option linter.unusedSimpArgs false

theorem forget_get (keep : List Nat) : ∀ (i : Nat) (l : List PV), (forget keep i l).length = l.length ∧ ∀ t, (forget keep i l)[t]? = l[t]? ∨ (forget keep i l).getD t .top = .top
  | i, [] => ⟨rfl, fun t => .inl rfl⟩
  | i, p :: r => by
    obtain ⟨h1, h2⟩ := forget_get keep (i + 1) r
    refine ⟨by simp [forget, h1], fun t => ?_⟩
    cases t with
    | zero =>
      simp only [forget]
      cases hasN i keep
      · right; simp
      · left; simp
    | succ t => simpa [forget] using h2 t

theorem blksLt_spec {k : Nat} : ∀ {bl : Blks}, blksLt k bl = true → ∀ (id : Nat) (x : Blk), bl[id]? = some (some x) → x.flat = true ∨ x.rows.all (PV.lt.ltL k) = true
  | [], _, id, x, hx => by simp at hx
  | none :: r, h, id, x, hx => by
    cases id with
    | zero => simp at hx
    | succ id => exact blksLt_spec (by simpa [blksLt] using h) id x (by simpa using hx)
  | some y :: r, h, id, x, hx => by
    simp only [blksLt, Bool.and_eq_true, Bool.or_eq_true] at h
    cases id with
    | zero => simp at hx; subst hx; exact h.1
    | succ id => exact blksLt_spec h.2 id x (by simpa using hx)

theorem trimT_le {sl : List PV} {bl : Blks} : ∀ (f t : Nat), t ≤ trimT sl bl f t
  | 0, t => Nat.le_refl _
  | f + 1, t => by
    simp only [trimT]
    split
    · exact Nat.le_refl _
    · exact Nat.le_trans (Nat.le_succ t) (trimT_le f (t + 1))

theorem norm_ok {B N k : Nat} {m : Mem} {w : World} {st : St} {tmps : Array Value} (keep : List Nat) (n0 : Nat) (hs : StOk B N m k w st tmps) (hn00 : N ≤ n0) : ∃ m' k', StOk B N m' k' w (norm keep n0 st) tmps ∧ m'.cell = m.cell ∧ ∀ b, b < N → m'.blk b = m.blk b := by
  obtain ⟨f1, f2⟩ := forget_get keep 0 st.sl
  have slots : ∀ t, Rep m k ((forget keep 0 st.sl).getD t .top) (tmps.getD t undef) := fun t => by
    rcases f2 t with h | h
    · rw [List.getD_eq_getElem?_getD, h, ← List.getD_eq_getElem?_getD]; exact hs.sl t
    · rw [h]; exact .top
  unfold norm
  have hn0 := Nat.le_trans hn00 (trimT_le (sl := forget keep 0 st.sl) (bl := st.bl) (st.bl.length - n0) n0)
  generalize trimT (forget keep 0 st.sl) st.bl (st.bl.length - n0) n0 = n0 at hn0
  unfold trimB
  split
  · rename_i hc
    simp only [Bool.and_eq_true] at hc
    obtain ⟨c1, c2⟩ := hc
    let m' : Mem := ⟨m.cell, fun id => if id < n0 then m.blk id else none⟩
    have hle : MLe n0 m m' := ⟨fun _ _ _ h => h, fun b i hb hi => ⟨i, by simp [m', hb, hi], .inl rfl⟩⟩
    have hblk : ∀ id i, m'.blk id = some i → m.blk id = some i := fun id i hi => by
      simp only [m'] at hi
      split at hi
      · exact hi
      · cases hi
    have htk : ∀ (id : Nat) (x : Option Blk), (st.bl.take n0)[id]? = some x → st.bl[id]? = some x := fun id x hx => by
      rw [List.getElem?_take] at hx
      split at hx
      · exact hx
      · cases hx
    refine ⟨m', n0, ⟨by rw [f1]; exact hs.size, fun t => ?_, ⟨hs.eff.frz, ⟨fun id x i hx hi => ?_, fun id x i hx hi => hs.eff.own.base id x i (htk id _ hx) (hblk id i hi), fun id x i id' x' i' hx hi hx' hi' => hs.eff.own.inj id x i id' x' i' (htk id _ hx) (hblk id i hi) (htk id' _ hx') (hblk id' i' hi')⟩, hs.eff.hB, fun id hid => ?_⟩, by have := hs.nb; simp only [List.length_take]; omega, hn0⟩, rfl, fun b hb => by simp only [m']; rw [if_pos (by omega)]⟩
    · refine (Rep.down (slots t) ?_).mono hle
      by_cases ht : t < (forget keep 0 st.sl).length
      · exact ltL_all c1 t _ (by rw [List.getD_eq_getElem?_getD, List.getElem?_eq_getElem ht]; rfl)
      · rw [List.getD_eq_getElem?_getD, List.getElem?_eq_none (by omega)]; rfl
    · rcases hs.eff.own.at_ id x i (htk id _ hx) (hblk id i hi) with hat | hat | hat
      · skip
        refine .inl ⟨hat.ver, hat.e, hat.n, hat.rowl, ?_, hat.ne⟩
        rcases hat.mem with h | ⟨hv, cur, ty, h1, h2, h3, h4, h5⟩
        · exact .inl h
        · refine .inr ⟨hv, cur, ty, h1, h2, h3, h4, fun r row j p hr hj => ?_⟩
          obtain ⟨v, g1, g2, g3⟩ := h5 r row j p hr hj
          refine ⟨v, g1, g2, ?_⟩
          cases hfl : x.flat
          · rcases blksLt_spec c2 id x hx with h | h
            · rw [hfl] at h; cases h
            · rw [hfl] at g3
              simp only [Bool.false_eq_true, if_false] at g3 ⊢
              exact (g3.down (ltL_all (all_get h hr) j p hj)).mono hle
          · rw [hfl] at g3
            simp only [if_true] at g3 ⊢
            exact g3.re (fun _ _ _ h => h)
      · obtain ⟨es, clock, h1, h2, h9⟩ := hat.mem
        refine .inr (.inl ⟨hat.ver, hat.e, hat.virt, es, clock, h1, ⟨h2.1, fun r row hr => ?_⟩, h9⟩)
        obtain ⟨kp, vp, e, f1, f2, f3, f4⟩ := h2.2 r row hr
        refine ⟨kp, vp, e, f1, f2, ?_⟩
        cases hfl : x.flat
        · rcases blksLt_spec c2 id x hx with h | h
          · rw [hfl] at h; cases h
          · rw [hfl] at f3 f4
            simp only [Bool.false_eq_true, if_false] at f3 f4 ⊢
            have hl := all_get h hr
            subst f1
            exact ⟨(f3.down (ltL_all hl 0 kp rfl)).mono hle, (f4.down (ltL_all hl 1 vp rfl)).mono hle⟩
        · rw [hfl] at f3 f4
          simp only [if_true] at f3 f4 ⊢
          exact ⟨f3.re (fun _ _ _ h => h), f4.re (fun _ _ _ h => h)⟩
      · exact .inr (.inr hat)
    · by_cases hn : id < n0
      · simp only [m', if_pos hn]
        exact hs.eff.fresh id (by simp at hid; omega)
      · simp only [m', if_neg hn]
  · exact ⟨m, k, ⟨by rw [f1]; exact hs.size, slots, hs.eff, hs.nb, hs.nk⟩, rfl, fun _ _ => rfl⟩

section
variable {P : Program} {call : Cl} {own : List Nat}

/-- a loop, by a number that sinks -/
theorem wp_loop_ind {Q : Exit → Act → World → Prop} {c : Code} (R : Nat → Act → World → Prop) (round : ∀ n a w, R n a w → c.wp P (Exit.then (fun a' w' => ∃ m, m < n ∧ R m a' w') Q) a w) {n : Nat} {a : Act} {w : World} (h : R n a w) : (Code.loop c).wp P Q a w := by
  intro b k cs
  have key : ∀ n a w, R n a w → ∃ e a' w', Q e a' w' ∧ Arrives P (lone (b.at a (.code c :: .inLoop c :: k)) cs w) b k cs e a' w' := by
    intro n
    induction n using Nat.strongRecOn with
    | _ n ih =>
      intro a w hR
      obtain ⟨e, a₁, w₁, hq, harr⟩ := round n a w hR b (.inLoop c :: k) cs
      cases e with
      | normal =>
        obtain ⟨m, hlt, hR1⟩ := hq
        obtain ⟨e₂, a₂, w₂, hq₂, harr₂⟩ := ih m hlt a₁ w₁ hR1
        exact ⟨e₂, a₂, w₂, hq₂, .of_steps (Steps.trans harr (.one step_inLoop)) harr₂⟩
      | exit id => exact ⟨_, a₁, w₁, hq, .pass (x := .inLoop c) rfl (fun _ _ => .inl (by simp)) harr⟩
      | goto l => exact ⟨_, a₁, w₁, hq, .pass (x := .inLoop c) rfl (fun _ _ => .inl (by simp)) harr⟩
      | ret => exact ⟨_, a₁, w₁, hq, .pass (x := .inLoop c) rfl (fun _ _ => .inl (by simp)) harr⟩
      | panic ch => exact ⟨_, a₁, w₁, hq, .pass (x := .inLoop c) rfl (fun _ _ => .inl (by simp)) harr⟩
      | outgrown => exact ⟨_, a₁, w₁, hq, .pass (x := .inLoop c) rfl (fun _ _ => .inl (by simp)) harr⟩
  obtain ⟨e, a', w', hq, harr⟩ := key n a w h
  exact ⟨e, a', w', hq, .of_steps (.one step_loop) harr⟩

/-- what is asked of the end of a piece of code -/
def QOk (B N : Nat) (m : Mem) (w : World) (a : Act) (Q : Exit → Act → World → Prop) : Out → Prop
  | .normal st => ∀ m' k' w' a', Fin B N m w a st m' k' w' a' → Q .normal a' w'
  | .exit id st => ∀ m' k' w' a', Fin B N m w a st m' k' w' a' → Q (.exit id) a' w'
  | .ret st => ∀ m' k' w' a', Fin B N m w a st m' k' w' a' → Q .ret a' w'

theorem QOk.step {B N : Nat} {m m1 : Mem} {w w1 : World} {a a1 : Act} {Q : Exit → Act → World → Prop} {out : Out} (h : QOk B N m w a Q out) (hb : Below B w w1) (hg : Grow B N m m1) (hd : a1.defers = a.defers) : QOk B N m1 w1 a1 Q out := by
  cases out <;> exact fun m' k' w' a' f => h m' k' w' a' ⟨f.st, hb.trans f.bel, hg.trans f.grow, f.defers.trans hd⟩

theorem code_sound (hc : CallOk P call) (n : Nat) {B N : Nat} : ∀ (c : Code) (ks ks' : List (List Nat)) (ac : AC), digCode P own c ks = some (ac, ks') → ∀ (st : St) (out : Out) (a : Act) (w : World) (m : Mem) (k : Nat) (Q : Exit → Act → World → Prop),
    evCode call n ac st = some out → StOk B N m k w st a.tmps → QOk B N m w a Q out → c.wp P Q a w := by
  intro c
  induction c with
  | skip =>
    intro ks ks' ac hd st out a w m k Q he hs hq
    simp only [digCode] at hd
    cases hd
    simp only [evCode] at he
    cases he
    exact wp_skip (hq m k w a ⟨hs, Below.refl _ _, Grow.refl _ _ _, rfl⟩)
  | region id ops draw =>
    intro ks ks' ac hd st out a w m k Q he hs hq
    simp only [digCode] at hd
    split at hd
    · rename_i al hal
      split at hd
      · rename_i hdr
        subst hdr
        split at hd
        · rename_i hok
          cases hd
          simp only [evCode] at he
          split at he
          · rename_i st' hev
            cases he
            exact region_draw hc hal hok (.inl rfl) hev hs hq
          · cases he
        · split at hd
          · rename_i hok
            cases hd
            simp only [evCode] at he
            split at he
            · rename_i st' hev
              split at he
              · rename_i hck
                cases he
                exact region_draw hc hal hok (.inr hck) hev hs hq
              · cases he
            · cases he
          · cases hd
            simp [evCode] at he
      · rename_i hdr
        cases hd
        have hdr' : draw = false := by simpa using hdr
        subst hdr'
        simp only [evCode] at he
        split at he
        · rename_i st' hev
          cases he
          exact wp_region_list (ops_seq hc ops.toList al hal st st' a w m k hev hs hq)
        · cases he
    · cases hd
      simp [evCode] at he
  | seq x y ihx ihy =>
    intro ks ks' ac hd st out a w m k Q he hs hq
    simp only [digCode] at hd
    split at hd
    · rename_i ax ks1 hx
      split at hd
      · rename_i ay ks2 hy
        cases hd
        simp only [evCode] at he
        refine wp_seq ?_
        split at he
        · rename_i st1 h1
          refine ihx ks ks1 ax hx st (.normal st1) a w m k _ h1 hs (fun m1 k1 w1 a1 f => ?_)
          exact ihy ks1 _ ay hy st1 out a1 w1 m1 k1 Q he f.st (hq.step f.bel f.grow f.defers)
        · rename_i r hne
          cases out with
          | normal st' => exact absurd he (hne st')
          | exit id st' => exact ihx ks ks1 ax hx st _ a w m k _ he hs hq
          | ret st' => exact ihx ks ks1 ax hx st _ a w m k _ he hs hq
      · cases hd
    · cases hd
  | cond cc x y ihx ihy =>
    intro ks ks' ac hd st out a w m k Q he hs hq
    simp only [digCode] at hd
    split at hd
    · rename_i acc hcc
      split at hd
      · rename_i ax ks1 hx
        split at hd
        · rename_i ay ks2 hy
          cases hd
          simp only [evCode] at he
          have rc := opd (a := a) (m := m) (k := k) (sl := st.sl) hcc (fun t _ => hs.sl t)
          split at he
          · rename_i t ht
            rw [ht] at rc
            refine wp_cond (bool_inv rc) ?_
            split at he
            · rename_i htt
              subst htt
              exact ihx ks ks1 ax hx st out a w m k Q he hs hq
            · rename_i htt
              have : t = false := by simpa using htt
              subst this
              exact ihy ks1 _ ay hy st out a w m k Q he hs hq
          · cases he
        · cases hd
      · cases hd
    · cases hd
      simp [evCode] at he
  | block id x ih =>
    intro ks ks' ac hd st out a w m k Q he hs hq
    simp only [digCode] at hd
    split at hd
    · rename_i ax ks1 hx
      cases hd
      simp only [evCode] at he
      refine wp_block ?_
      split at he
      · rename_i id' st1 h1
        split at he
        · rename_i hid
          cases he
          refine ih ks _ ax hx st _ a w m k _ h1 hs (fun m1 k1 w1 a1 f => ?_)
          show Exit.inBlock id Q (.exit id') a1 w1
          simp only [Exit.inBlock, hid, if_true]
          exact hq m1 k1 w1 a1 f
        · rename_i hid
          cases he
          refine ih ks _ ax hx st _ a w m k _ h1 hs (fun m1 k1 w1 a1 f => ?_)
          show Exit.inBlock id Q (.exit id') a1 w1
          simp only [Exit.inBlock, hid, if_false]
          exact hq m1 k1 w1 a1 f
      · rename_i r hne
        cases out with
        | normal st' => exact ih ks _ ax hx st _ a w m k _ he hs hq
        | exit id' st' => exact absurd he (hne id' st')
        | ret st' => exact ih ks _ ax hx st _ a w m k _ he hs hq
    · cases hd
  | loop x ih =>
    intro ks ks' ac hd st out a w m k Q he hs hq
    simp only [digCode] at hd
    split at hd
    · rename_i ax ks1 hx
      cases hd
      simp only [evCode] at he
      refine wp_loop_ind (R := fun q a1 w1 => ∃ st1 m1 k1, evLoop (evCode call n ax) (ks.headD []) st.bl.length q st1 = some out ∧ StOk B N m1 k1 w1 st1 a1.tmps ∧ Below B w w1 ∧ Grow B N m m1 ∧ a1.defers = a.defers) ?_ (n := n) ⟨st, m, k, he, hs, Below.refl _ _, Grow.refl _ _ _, rfl⟩
      rintro q a1 w1 ⟨st1, m1, k1, h1, h2, h3, h4, h5⟩
      cases q with
      | zero => simp [evLoop] at h1
      | succ q =>
        simp only [evLoop] at h1
        obtain ⟨m2, k2, g1, g2, g3⟩ := norm_ok (ks.headD []) st.bl.length h2 hs.nb
        have hg2 : Grow B N m1 m2 := ⟨fun b o v h => by rw [g2]; exact h, fun b o v h => by rw [g2] at h; exact .inl h, fun b i hb hi => ⟨i, by rw [g3 b hb]; exact hi, .inl rfl⟩⟩
        split at h1
        · rename_i st2 h6
          refine ih ks.tail _ ax hx _ (.normal st2) a1 w1 m2 k2 _ h6 g1 (fun m3 k3 w3 a3 f => ?_)
          exact ⟨q, by omega, st2, m3, k3, h1, f.st, h3.trans f.bel, (h4.trans hg2).trans f.grow, f.defers.trans h5⟩
        · rename_i r hne
          have hq2 := hq.step h3 (h4.trans hg2) h5
          cases out with
          | normal st' => exact absurd h1 (hne st')
          | exit id st' => exact ih ks.tail _ ax hx _ _ a1 w1 m2 k2 _ h1 g1 hq2
          | ret st' => exact ih ks.tail _ ax hx _ _ a1 w1 m2 k2 _ h1 g1 hq2
    · cases hd
  | exit id =>
    intro ks ks' ac hd st out a w m k Q he hs hq
    simp only [digCode] at hd
    cases hd
    simp only [evCode] at he
    cases he
    exact wp_exit (hq m k w a ⟨hs, Below.refl _ _, Grow.refl _ _ _, rfl⟩)
  | ret =>
    intro ks ks' ac hd st out a w m k Q he hs hq
    simp only [digCode] at hd
    cases hd
    simp only [evCode] at he
    cases he
    exact wp_ret (hq m k w a ⟨hs, Below.refl _ _, Grow.refl _ _ _, rfl⟩)
  | _ =>
    intro ks ks' ac hd st out a w m k Q he hs hq
    simp only [digCode] at hd
    cases hd
    simp [evCode] at he

end
end Go.Proofs.Ytlnaibkpmklkiaa
