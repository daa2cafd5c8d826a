/- Lists of operations that came in, and 'few'. -/
import Derived.Test.YtdchodjfgeglgaaOpen
namespace Go.Proofs.Ytdchodjfgeglgaa
open Go.Joins Go.ChangeShapes Go.WideShapes Go.RowKit Go.Deep Go.ChangeAt

structure OpD where
  kd : Int
  m : Int
  B : Option Addr
  cb : Nat
  ys : List Int
/-- the operation o lies at the place p -/
structure OpAt (W : World) (b off : Nat) (o : OpD) : Prop where
  lt : b < W.heap.size
  c0 : W.cell? ⟨b, off, none⟩ = some (.int .i64 o.kd)
  c1 : W.cell? ⟨b, off + 1, none⟩ = some (.int .i64 o.m)
  c2 : W.cell? ⟨b, off + 2, none⟩ = some (.slice o.B o.ys.length o.cb)
  sl : Sl W o.B o.cb o.ys
theorem OpAt.keep {W W' : World} {b off : Nat} {o : OpD} (h : OpAt W b off o) (hb : Below W.heap.size W W') : OpAt W' b off o :=
  ⟨Nat.lt_of_lt_of_le h.lt hb.size, (hb.cell (p := ⟨b, off, none⟩) h.lt).trans h.c0, (hb.cell (p := ⟨b, off + 1, none⟩) h.lt).trans h.c1, (hb.cell (p := ⟨b, off + 2, none⟩) h.lt).trans h.c2, h.sl.keep hb⟩
/-- a slice whose elements are the operations L -/
structure OpsIn (W : World) (a : Option Addr) (cap : Nat) (L : List OpD) : Prop where
  le : L.length ≤ cap
  max : cap ≤ 9223372036854775807
  at_ : ∀ (i : Nat) (o : OpD), L[i]? = some o → ∃ b off, a = some ⟨b, off, none⟩ ∧ OpAt W b (off + i * 3) o
theorem OpsIn.keep {W W' : World} {a : Option Addr} {cap : Nat} {L : List OpD} (h : OpsIn W a cap L) (hb : Below W.heap.size W W') : OpsIn W' a cap L :=
  ⟨h.le, h.max, fun i o hi => by obtain ⟨b, off, e, ho⟩ := h.at_ i o hi; exact ⟨b, off, e, ho.keep hb⟩⟩
theorem add_lit (b off k : Nat) : (⟨b, off, none⟩ : Addr).add k = ⟨b, off + k, none⟩ := by unfold Addr.add; split <;> simp_all
section
variable {H : Type} {enc : TypeId × Value → H} {W : World} {base b0 sp n : Nat} {v : Value} {d : DataW H} {p : List MemPlace}
theorem list_of {α : Type} {P : Nat → α → Prop} : ∀ (n : Nat), (∀ i, i < n → ∃ o, P i o) → ∃ L : List α, L.length = n ∧ ∀ (i : Nat) (o : α), L[i]? = some o → P i o
  | 0, _ => ⟨[], rfl, fun i o h => by simp at h⟩
  | n + 1, h => by
    obtain ⟨L, hl, hL⟩ := list_of n (fun i hi => h i (by omega))
    obtain ⟨o, ho⟩ := h n (by omega)
    refine ⟨L ++ [o], by simp [hl], fun i o' hi => ?_⟩
    by_cases hin : i < n
    · rw [List.getElem?_append_left (by omega)] at hi
      exact hL i o' hi
    · have hlt := (List.getElem?_eq_some_iff.1 hi).1
      simp [hl] at hlt
      obtain rfl : i = n := by omega
      rw [List.getElem?_append_right (by omega)] at hi
      simp [hl] at hi
      subst hi
      exact ho
theorem open_ops {a : Option Addr} {len cap : Nat} (h : DataW.Trod enc Try.prog W sp (fun _ => true) true 22 (.slice a len cap) d p) :
    ∃ L : List OpD, len = L.length ∧ OpsIn W a cap L := by
  obtain ⟨fuel, hf⟩ := h
  rcases open_slice_fields Try.underlying22 Try.underlying34 (by kernel_rfl) cells34 hf with ⟨hcs, _⟩ | ⟨x, l, c, m, D, Pl, hcs, _, hl, hm, hmm, _, hi⟩
  · simp [Value.cells] at hcs
    obtain ⟨rfl, rfl, rfl⟩ := hcs
    exact ⟨[], rfl, ⟨by simp, by decide, fun i o hi => by simp at hi⟩⟩
  · simp [Value.cells] at hcs
    obtain ⟨rfl, rfl, rfl⟩ := hcs
    simp only [if_true] at hmm
    unfold maxLen at hm
    obtain ⟨b, off, spot⟩ := x
    have hspot : 0 < len → spot = none := fun h0 => by
      obtain ⟨ys, n, _, _, _, hj⟩ := hi 0 (by omega)
      obtain ⟨u0, y0, c0, _, _⟩ := hj 0 _ rfl
      simpa [Addr.add] using World.cell?_spot c0
    obtain ⟨L, hL, hat⟩ := list_of (P := fun i o => OpAt W b (off + i * 3) o) len (fun i hlt => by
      obtain ⟨ys, n, _, _, _, hj⟩ := hi i (by omega)
      obtain ⟨u0, y0, c0, _, t0⟩ := hj 0 _ rfl
      obtain ⟨u1, y1, c1, _, t1⟩ := hj 1 _ rfl
      obtain ⟨u2, y2, c2, _, t2⟩ := hj 2 _ rfl
      obtain ⟨z0, e0, _, _⟩ := DataW.trod_int Try.underlying3 t0
      obtain ⟨z1, e1, _, _⟩ := DataW.trod_int Try.underlying3 t1
      obtain ⟨B, cb, zs, rfl, hs⟩ := sl_of_trod t2
      simp at e0 e1
      subst e0 e1
      obtain rfl := hspot (by omega)
      simp only [add_lit] at c0 c1 c2
      exact ⟨⟨z0, z1, B, cb, zs⟩, ⟨by simpa using cell_lt c0, c0, c1, c2, hs⟩⟩)
    exact ⟨L, hL.symm, ⟨by omega, by omega, fun i o hi => by
      have hlt := (List.getElem?_eq_some_iff.1 hi).1
      exact ⟨b, off, by rw [hspot (by omega)], hat i o hi⟩⟩⟩
end
end Go.Proofs.Ytdchodjfgeglgaa
