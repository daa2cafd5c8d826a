/- Byte slices of the call's own: '[]byte{}' and what is appended to it. -/
import Derived.Test.YtdchodjfgeglgaaBase
namespace Go.Proofs.Ytdchodjfgeglgaa
open Go.ChangeShapes Go.WideShapes Go.ChangeAt Go.RowKit

structure Own (w : World) (base : Nat) (A : Option Addr) (c : Nat) (zs : List Int) : Prop where
  inb : InB zs
  le : base ≤ w.heap.size
  own : w.ownsRow base 5 1 (.slice A zs.length c) zs.length (zs.map (Value.int .u8))
theorem Own.start (W : World) : Own (W.alloc (.cells #[] 5)) W.heap.size (some ⟨W.heap.size, 0, none⟩) 0 [] :=
  ⟨InB.nil, by simp, ⟨rfl, .inr ⟨W.heap.size, 0, #[], rfl, Nat.le_refl _, heap_alloc_new _ _, Nat.le_refl _, by decide, rfl, rfl⟩⟩⟩
theorem Own.sl {w : World} {base : Nat} {A : Option Addr} {c : Nat} {zs : List Int} (h : Own w base A c zs) : Sl w A c zs := (sl_of_own h.inb h.own).2
theorem Own.apart {w : World} {base : Nat} {A : Option Addr} {c : Nat} {zs : List Int} (h : Own w base A c zs) {b : Nat} (hb : b < base) : Apart A zs b := by
  rintro hne ad rfl e
  have hp : 0 < zs.length := List.length_pos_iff.2 hne
  obtain ⟨g, cap, hv, hg, _⟩ := h.own.form hp
  injection hv with hv
  injection hv with hv
  subst hv
  simp at e
  omega
theorem run_append_more (w : World) (ty : TypeId) (base : Nat) (A : Option Addr) (c : Nat) (xs : List Int) (h : Own w base A c xs) (B : Option Addr) (cb : Nat) (ys : List Int) (hy : Sl w B cb ys) (hle : xs.length + ys.length ≤ 4000000) :
    ∃ A' c' w', (Builtin.append_ #[25, 25] ty #[.slice A xs.length c, .slice B ys.length cb]).run Try.prog w = .ok (.slice A' (xs.length + ys.length) c') w' ∧ Own w' base A' c' (xs ++ ys) ∧ Below base w w' := by
  obtain ⟨i, hi, hz, hs, hby⟩ := info5
  obtain ⟨v', w', hrun, hown, hg, _⟩ := run_append_any (P := Try.prog) w base 25 ty 5 i _ 1 1 Try.underlying25 hi hz hs hby rfl (by omega) _ xs.length _ h.own w.heap.size B ys.length cb _ hy.reads (one_u8 _) (by unfold maxLen; omega) (by omega) h.le
  have hb : Below base w w' := (Below.refl _ _).grown hg h.le (fun k hk => (h.own.lt k hk).1)
  have hsz : w.heap.size ≤ w'.heap.size := hg.size
  rw [← List.map_append] at hown
  obtain ⟨A', c', rfl⟩ : ∃ A' c', v' = .slice A' (xs.length + ys.length) c' := by
    rcases hown.2 with ⟨e, h0⟩ | ⟨g, cap, cur, e, _⟩
    · rw [h0]; exact ⟨_, _, e⟩
    · exact ⟨_, _, e⟩
  refine ⟨A', c', w', hrun, ⟨h.inb.append hy.inb, Nat.le_trans h.le hsz, ?_⟩, hb⟩
  rw [List.length_append]
  exact hown
theorem wpList_append_first {ops : Array Oper} {rest : List Oper} {o : Oper} {a : Act} {Q : Exit → Act → World → Prop} (w : World) (hgd : o.guard = none) (s x : Operand)
    (ho : o.op = .call { callee := .builtin .append, args := #[s, x], argTypes := #[25, 25] })
    (base : Nat) (A : Option Addr) (hl : Own w base A 0 []) (hs : a.eval s = .slice A 0 0) (B : Option Addr) (cb : Nat) (ys : List Int) (hy : Sl w B cb ys) (m : Nat) (hm : m = ys.length) (hx : a.eval x = .slice B m cb) (hle : ys.length ≤ 4000000)
    (h : ∀ A' c' w', Own w' base A' c' ys → Below base w w' → wpList Try.prog ops Q rest (a.put o.dst (.slice A' m c')) w') : wpList Try.prog ops Q (o :: rest) a w := by
  subst hm
  obtain ⟨A', c', w', hrun, h2, h3⟩ := run_append_more w o.type base A 0 [] hl B cb ys hy (by simpa using hle)
  simp only [List.length_nil, Nat.zero_add, List.nil_append] at hrun h2
  refine wpList_plain hgd fun K hK => ?_
  unfold Oper.wp execOp
  simp only [ho, resolve, invoke, builtin, Sem.run_bind, Sem.run_pure, Result.andThen_ok, List.map_toArray, List.map_cons, List.map_nil, hs, hx, hrun]
  exact hK _ _ (h A' c' w' h2 h3)
theorem wpList_append_more {ops : Array Oper} {rest : List Oper} {o : Oper} {a : Act} {Q : Exit → Act → World → Prop} (w : World) (hgd : o.guard = none) (s x : Operand)
    (ho : o.op = .call { callee := .builtin .append, args := #[s, x], argTypes := #[25, 25] })
    (base : Nat) (A : Option Addr) (c : Nat) (xs : List Int) (hl : Own w base A c xs) (hs : a.eval s = .slice A xs.length c) (B : Option Addr) (cb : Nat) (ys : List Int) (hy : Sl w B cb ys) (m : Nat) (hm : m = ys.length) (hx : a.eval x = .slice B m cb) (hle : xs.length + ys.length ≤ 4000000)
    (h : ∀ A' c' w', Own w' base A' c' (xs ++ ys) → Below base w w' → wpList Try.prog ops Q rest (a.put o.dst (.slice A' (xs.length + m) c')) w') : wpList Try.prog ops Q (o :: rest) a w := by
  subst hm
  obtain ⟨A', c', w', hrun, h2, h3⟩ := run_append_more w o.type base A c xs hl B cb ys hy hle
  refine wpList_plain hgd fun K hK => ?_
  unfold Oper.wp execOp
  simp only [ho, resolve, invoke, builtin, Sem.run_bind, Sem.run_pure, Result.andThen_ok, List.map_toArray, List.map_cons, List.map_nil, hs, hx, hrun]
  exact hK _ _ (h A' c' w' h2 h3)
theorem Bx.below {W W' : World} {B : Nat} {g : Nat} {v0 v1 v2 v3 v4 : Value} (h : Bx W g v0 v1 v2 v3 v4) (hb : Below B W W') (hg : g < B) : Bx W' g v0 v1 v2 v3 v4 :=
  ⟨Nat.lt_of_lt_of_le h.lt hb.size, (hb.cell (p := ⟨g, 0, none⟩) hg).trans h.c0, (hb.cell (p := ⟨g, 1, none⟩) hg).trans h.c1, (hb.cell (p := ⟨g, 2, none⟩) hg).trans h.c2, (hb.cell (p := ⟨g, 3, none⟩) hg).trans h.c3, (hb.cell (p := ⟨g, 4, none⟩) hg).trans h.c4, fun o => (hb.frozen (p := ⟨g, o, none⟩) hg).trans (h.fz o)⟩
theorem Bx.far {W : World} {g : Nat} {v0 v1 v2 v3 v4 : Value} (h : Bx W g v0 v1 v2 v3 v4) (p : Addr) (u : Value) (hp : g ≠ p.block) : Bx (W.setCell p u) g v0 v1 v2 v3 v4 := by
  have hc : ∀ o, (W.setCell p u).cell? ⟨g, o, none⟩ = W.cell? ⟨g, o, none⟩ := fun o => World.cell?_setCell_other W p ⟨g, o, none⟩ u (fun e => hp (by rw [e]))
  refine ⟨by simpa using h.lt, (hc 0).trans h.c0, (hc 1).trans h.c1, (hc 2).trans h.c2, (hc 3).trans h.c3, (hc 4).trans h.c4, fun o => ?_⟩
  have := h.fz o
  go_simp
theorem Bx.store {W : World} {g : Nat} {u0 u1 u2 u3 u4 : Value} (h : Bx W g u0 u1 u2 u3 u4) (v0 v1 v2 v3 v4 : Value) :
    Bx (((((W.setCell ⟨g, 0, none⟩ v0).setCell ⟨g, 1, none⟩ v1).setCell ⟨g, 2, none⟩ v2).setCell ⟨g, 3, none⟩ v3).setCell ⟨g, 4, none⟩ v4) g v0 v1 v2 v3 v4 := by
  obtain ⟨hl, h0, h1, h2, h3, h4, hf⟩ := h
  refine ⟨by simpa using hl, ?_, ?_, ?_, ?_, ?_, fun o => ?_⟩ <;> go_simp
end Go.Proofs.Ytdchodjfgeglgaa
