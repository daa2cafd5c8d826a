/- Disks, operations and lists of operations that came in. The first two lemmas are the guide's, from its page of lemmas to copy. -/
import Derived.Test.YtdchodjfgeglgaaAwake
import Derived.Test.YtdchodjfgeglgaaRows
import Derived.Lib.SmallJoins
import Derived.Deep.Slices
import Derived.Deep.Fields
import Derived.ChangeSame
import Derived.ChangeOld
namespace Go.Proofs.Ytdchodjfgeglgaa
open Go.Joins Go.ChangeShapes Go.WideShapes Go.RowKit Go.Deep Go.ChangeAt

section
variable {H : Type} {enc : TypeId × Value → H} {P : Program} {w : World} {base : Nat} {spare : Nat → Bool} {held : Bool}
theorem open_slice_fields {t e : TypeId} {fs : Array Field} {fuel : Nat} {cs : List Value} {x : DataW H × List MemPlace} (ht : P.underlying t = some (.slice e)) (he : P.underlying e = some (.struct fs))
    (hone : oneCellFields P fs = true) (hC : P.cellsOf e = fs.size) (h : DataW.trod enc P w base spare held fuel t cs = some x) :
    (cs = [.slice none 0 0] ∧ x = (.nil, [])) ∨
    ∃ (a : Addr) (len cap m : Nat) (D : Nat → DataW H) (Pl : Nat → List MemPlace), cs = [.slice (some a) len cap] ∧ base ≤ a.block ∧ len ≤ cap ∧ cap ≤ maxLen ∧ m = (if spare a.block then cap else len) ∧
      x = (.slice ((List.range len).map D) ((List.range (m - len)).map fun j => D (len + j)), MemPlace.row a (m * fs.size) ++ (List.range m).flatMap Pl) ∧
      ∀ i, i < m → ∃ (ys : List (DataW H × List MemPlace)) (n : Nat), D i = .agg (ys.map (·.1)) ∧ Pl i = ys.flatMap (·.2) ∧ ys.length = fs.size ∧
        ∀ (j : Nat) (f : Field), fs[j]? = some f → ∃ (v : Value) (y : DataW H × List MemPlace), w.cell? (a.add (i * fs.size + j)) = some v ∧ ys[j]? = some y ∧ DataW.trod enc P w base spare held n f.type [v] = some y := by
  rcases open_slice ht h with h0 | ⟨a, len, cap, m, n, D, Pl, hcs, hb, hl, hm, hmm, hx, hi⟩
  · exact .inl h0
  · refine .inr ⟨a, len, cap, m, D, Pl, hcs, hb, hl, hm, hmm, by rw [hC] at hx; exact hx, fun i him => ?_⟩
    obtain ⟨cs', hc, ht'⟩ := hi i him
    rw [hC] at hc
    obtain ⟨ys, n', hn', hy, hlen, hyl, hf⟩ := DataW.trod_struct he ht'
    obtain ⟨_, hcl, hat⟩ := World.cells?_some hc
    simp only [Prod.mk.injEq] at hy
    refine ⟨ys, n', hy.1, hy.2, hyl, fun j f hj => ?_⟩
    obtain ⟨ho, hk⟩ := hone_of hone j f hj
    have hjl : j < fs.size := (Array.getElem?_eq_some_iff.1 hj).1
    have hcell := hat j hjl
    have hv : cs'[j]? = some (cs'[j]'(by omega)) := List.getElem?_eq_getElem (by omega)
    have h1 := hf j f hj
    rw [ho, hk] at h1
    have hone' : (cs'.drop j).take 1 = [cs'[j]'(by omega)] := by
      rw [List.drop_eq_getElem_cons (by omega)]
      rfl
    rw [hone'] at h1
    have hys : ys[j]? = some (ys[j]'(by omega)) := List.getElem?_eq_getElem (by omega)
    refine ⟨_, _, ?_, hys, h1.trans hys⟩
    rw [← Go.Deep.add_add, hcell, hv]
end
section
variable {H : Type} {enc : TypeId × Value → H} {P : Program} {w : World} {base : Nat} {spare : Nat → Bool} {held : Bool}
theorem open_agg5 {r : Reach} {b0 : Nat} {t : TypeId} {f0 f1 f2 f3 f4 : Field} {v : Value} {d : DataW H} {p : List MemPlace} (hs : P.underlying t = some (.struct #[f0, f1, f2, f3, f4])) (hone : oneCellFields P #[f0, f1, f2, f3, f4] = true) (hC : P.cellsOf t = 5)
    (hv : Value.okWide P w r b0 t v) (h : DataW.Trod enc P w base spare held t v d p) :
    ∃ (v0 v1 v2 v3 v4 : Value) (y0 y1 y2 y3 y4 : DataW H × List MemPlace) (n : Nat), v = .agg #[v0, v1, v2, v3, v4] ∧ d = .agg [y0.1, y1.1, y2.1, y3.1, y4.1] ∧ p = y0.2 ++ (y1.2 ++ (y2.2 ++ (y3.2 ++ y4.2))) ∧
      DataW.trod enc P w base spare held n f0.type [v0] = some y0 ∧ DataW.trod enc P w base spare held n f1.type [v1] = some y1 ∧ DataW.trod enc P w base spare held n f2.type [v2] = some y2 ∧ DataW.trod enc P w base spare held n f3.type [v3] = some y3 ∧ DataW.trod enc P w base spare held n f4.type [v4] = some y4 := by
  obtain ⟨cs, rfl, hsz⟩ := okWide_struct hs hv
  obtain ⟨l⟩ := cs
  match l, hsz.trans hC with
  | [c0, c1, c2, c3, c4], _ =>
    obtain ⟨fuel, hf⟩ := h
    obtain ⟨xs, n, _, hx, _, hlen, hg⟩ := DataW.trod_struct hs hf
    obtain ⟨o0, k0⟩ := hone_of hone 0 f0 rfl
    obtain ⟨o1, k1⟩ := hone_of hone 1 f1 rfl
    obtain ⟨o2, k2⟩ := hone_of hone 2 f2 rfl
    obtain ⟨o3, k3⟩ := hone_of hone 3 f3 rfl
    obtain ⟨o4, k4⟩ := hone_of hone 4 f4 rfl
    match xs, hlen with
    | [y0, y1, y2, y3, y4], _ =>
      simp only [Prod.mk.injEq] at hx
      exact ⟨c0, c1, c2, c3, c4, y0, y1, y2, y3, y4, n, rfl, by simpa using hx.1, by simpa using hx.2, by simpa [Value.cells, o0, k0] using hg 0 f0 rfl, by simpa [Value.cells, o1, k1] using hg 1 f1 rfl, by simpa [Value.cells, o2, k2] using hg 2 f2 rfl, by simpa [Value.cells, o3, k3] using hg 3 f3 rfl, by simpa [Value.cells, o4, k4] using hg 4 f4 rfl⟩
end

theorem own : ownKnob Try.prog.godebug = none := by kernel_rfl
theorem laidOut : laidOutB Try.prog = true := by kernel_rfl
theorem cells27 : Try.prog.cellsOf 27 = 5 := by kernel_rfl
theorem cells34 : Try.prog.cellsOf 34 = 3 := by kernel_rfl
section
variable {H : Type} {enc : TypeId × Value → H} {W : World} {base b0 sp n : Nat} {v : Value} {d : DataW H} {p : List MemPlace}
theorem sl_of_trod {spare : Nat → Bool} {held : Bool} {x : DataW H × List MemPlace} (h : DataW.trod enc Try.prog W sp spare held n 25 [v] = some x) :
    ∃ (A : Option Addr) (cap : Nat) (zs : List Int), v = .slice A zs.length cap ∧ Sl W A cap zs := by
  rcases open_ints Try.underlying25 Try.underlying5 (by kernel_rfl) h with ⟨hcs, _⟩ | ⟨a, l, c, z0, hcs, _, hl, hm, hz, _, hcell, hwf⟩
  · simp at hcs
    exact ⟨none, 0, [], by simpa using hcs, Sl.nil W none 0 (by decide)⟩
  · simp at hcs
    have hlz : l ≤ z0.length := by rw [hz]; split <;> omega
    have hlen : (z0.take l).length = l := by simp; omega
    have hg : ∀ j, j < l → (z0.take l).getD j 0 = z0.getD j 0 := fun j hj => by simp [List.getD, hj]
    unfold maxLen at hm
    refine ⟨some a, c, z0.take l, by rw [hlen]; exact hcs, ?_, ?_, ?_, by omega, by omega⟩
    · by_cases h0 : l = 0
      · subst h0; exact .inl (by simp)
      · obtain ⟨b, off, spot⟩ := a
        have hc := hcell 0 (by omega)
        have hspot : spot = none := by simpa [Addr.add] using World.cell?_spot hc
        subst hspot
        refine .inr ⟨b, off, rfl, fun j hj => ?_⟩
        rw [hlen] at hj
        have := hcell j (by omega)
        rw [hg j hj, ← this]
        congr 1
        unfold Addr.add; split <;> simp_all
    · intro z hz'
      have := hwf z (List.mem_of_mem_take hz')
      simpa [Lit.wf, IntKind.min, IntKind.max, IntKind.signed, IntKind.bits] using this
    · refine ⟨by simp, fun hn => ⟨a, rfl, ?_, fun j u hj => ?_⟩⟩
      · have := cell_lt (hcell 0 (by omega))
        rwa [block_of_add] at this
      · have hj' : j < l := by
          have := (List.getElem?_eq_some_iff.1 hj).1
          simp at this; omega
        rw [hcell j (by omega), ← hg j hj', ← hj]
        have : j < (z0.take l).length := by omega
        simp only [List.getElem?_map, List.getD, List.getElem?_eq_getElem this, Option.map_some, Option.getD_some]
theorem open_disk (hv : Value.okWide Try.prog W .any b0 27 v) (h : DataW.Trod enc Try.prog W sp (fun _ => true) true 27 v d p) :
    ∃ (s : Int) (A : Option Addr) (cap : Nat) (xs : List Int) (du le : Int) (dn : Bool), v = .agg #[.int .i64 s, .slice A xs.length cap, .int .i64 du, .int .i64 le, .bool dn] ∧ Sl W A cap xs ∧ (Lit.int .i64 s).wf = true ∧ (Lit.int .i64 du).wf = true ∧ (Lit.int .i64 le).wf = true := by
  obtain ⟨v0, v1, v2, v3, v4, y0, y1, y2, y3, y4, n, rfl, _, _, h0, h1, h2, h3, h4⟩ := open_agg5 Try.underlying27 (by kernel_rfl) cells27 hv h
  obtain ⟨x0, e0, _, w0⟩ := DataW.trod_int Try.underlying3 h0
  obtain ⟨A, cap, xs, rfl, hs⟩ := sl_of_trod h1
  obtain ⟨x2, e2, _, w2⟩ := DataW.trod_int Try.underlying3 h2
  obtain ⟨x3, e3, _, w3⟩ := DataW.trod_int Try.underlying3 h3
  obtain ⟨x4, e4, _⟩ := DataW.trod_bool Try.underlying4 h4
  simp at e0 e2 e3 e4
  subst e0 e2 e3 e4
  exact ⟨_, A, cap, xs, _, _, _, rfl, hs, w0, w2, w3⟩
theorem open_op (hv : Value.okWide Try.prog W .any b0 34 v) (h : DataW.Trod enc Try.prog W sp (fun _ => true) true 34 v d p) :
    ∃ (kd m : Int) (B : Option Addr) (cb : Nat) (ys : List Int), v = .agg #[.int .i64 kd, .int .i64 m, .slice B ys.length cb] ∧ Sl W B cb ys ∧ (Lit.int .i64 kd).wf = true ∧ (Lit.int .i64 m).wf = true := by
  obtain ⟨v0, v1, v2, y0, y1, y2, n, rfl, _, _, h0, h1, h2⟩ := open_agg3 Try.underlying34 (by kernel_rfl) cells34 hv h
  obtain ⟨x0, e0, _, w0⟩ := DataW.trod_int Try.underlying3 h0
  obtain ⟨x1, e1, _, w1⟩ := DataW.trod_int Try.underlying3 h1
  obtain ⟨B, cb, ys, rfl, hs⟩ := sl_of_trod h2
  simp at e0 e1
  subst e0 e1
  exact ⟨_, _, B, cb, ys, rfl, hs, w0, w1⟩
end
/-- a box that holds an operation -/
structure Ob (W : World) (g : Nat) (v0 v1 v2 : Value) : Prop where
  lt : g < W.heap.size
  c0 : W.cell? ⟨g, 0, none⟩ = some v0
  c1 : W.cell? ⟨g, 1, none⟩ = some v1
  c2 : W.cell? ⟨g, 2, none⟩ = some v2
theorem Ob.keep {W W' : World} {g : Nat} {v0 v1 v2 : Value} (h : Ob W g v0 v1 v2) (hb : Below W.heap.size W W') : Ob W' g v0 v1 v2 :=
  ⟨Nat.lt_of_lt_of_le h.lt hb.size, (hb.cell (p := ⟨g, 0, none⟩) h.lt).trans h.c0, (hb.cell (p := ⟨g, 1, none⟩) h.lt).trans h.c1, (hb.cell (p := ⟨g, 2, none⟩) h.lt).trans h.c2⟩
theorem Ob.new1 (W : World) (o : Obj) (v0 v1 v2 : Value) : Ob ((W.alloc o).alloc (.cells #[v0, v1, v2] 34)) (W.heap.size + 1) v0 v1 v2 := by
  have : Ob ((W.alloc o).alloc (.cells #[v0, v1, v2] 34)) (W.alloc o).heap.size v0 v1 v2 := ⟨by simp, by simp, by simp, by simp⟩
  simpa using this
theorem Ob.new (W : World) (v0 v1 v2 : Value) : Ob (W.alloc (.cells #[v0, v1, v2] 34)) W.heap.size v0 v1 v2 := ⟨by simp, by simp, by simp, by simp⟩
theorem Ob.alloc {W : World} {g : Nat} {v0 v1 v2 : Value} (h : Ob W g v0 v1 v2) (o : Obj) : Ob (W.alloc o) g v0 v1 v2 := h.keep (one_ o)
theorem Ob.far {W : World} {g : Nat} {v0 v1 v2 : Value} (h : Ob W g v0 v1 v2) (p : Addr) (u : Value) (hp : g ≠ p.block) : Ob (W.setCell p u) g v0 v1 v2 := by
  have hc : ∀ o, (W.setCell p u).cell? ⟨g, o, none⟩ = W.cell? ⟨g, o, none⟩ := fun o => World.cell?_setCell_other W p ⟨g, o, none⟩ u (fun e => hp (by rw [e]))
  exact ⟨by simpa using h.lt, (hc 0).trans h.c0, (hc 1).trans h.c1, (hc 2).trans h.c2⟩
theorem Bx.set4 {W : World} {g : Nat} {v0 v1 v2 v3 v4 : Value} (h : Bx W g v0 v1 v2 v3 v4) (u : Value) : Bx (W.setCell ⟨g, 4, none⟩ u) g v0 v1 v2 v3 u := by
  obtain ⟨hl, h0, h1, h2, h3, h4, hf⟩ := h
  refine ⟨by simpa using hl, ?_, ?_, ?_, ?_, ?_, fun o => ?_⟩ <;> go_simp
theorem actF_down {d : Dk} (h : okD d = true) (hd : d.down = true) {kd : Int} (hk : kd ≠ 7) (m : Int) (ys : List Int) : actF d kd m ys = (d, 19) := by
  unfold actF syncF truncF armF appF
  rw [if_pos h, if_pos h, if_pos h, if_pos h, if_pos hd, if_pos hd, if_pos hd, if_pos hd, if_neg hk]
  repeat' split
  all_goals rfl
end Go.Proofs.Ytdchodjfgeglgaa
