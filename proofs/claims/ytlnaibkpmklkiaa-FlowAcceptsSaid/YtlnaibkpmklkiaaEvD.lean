/- Worlds and the memory that the pure reading knows. -/
import Derived.Test.YtlnaibkpmklkiaaEvC
namespace Go.Proofs.Ytlnaibkpmklkiaa
open Go Go.RowKit
set_option linter.unusedSectionVars false
variable [Bs]

def FrzOk (m : Mem) (w : World) : Prop := (∀ b o v, m.cell b o = some v → w.cell? ⟨b, o, none⟩ = some v ∧ v.oneCell' = true) ∧ (∀ b o v, Bs.cell b o = some v → m.cell b o = some v) ∧ ∀ g ob, Bs.obj g = some ob → (∃ u, Bs.cell g 0 = some u) ∧ w.heap[g]? = some ob

/-- the rows x.rows lie in the cells cur -/
def RowsIn (m : Mem) (k : Nat) (e : Nat) (rows : List (List PV)) (cur : Array Value) : Prop :=
  ∀ (r : Nat) (row : List PV) (j : Nat) (p : PV), rows[r]? = some row → row[j]? = some p → ∃ v, cur[r * e + j]? = some v ∧ v.oneCell' = true ∧ Rep m k p v

structure BlkAt (m : Mem) (k : Nat) (w : World) (i : Info) (x : Blk) : Prop where
  ver : i.ver = x.ver
  e : i.e = x.e
  n : i.n = x.rows.length
  rowl : ∀ r ∈ x.rows, r.length = x.e
  mem : (i.virt = true ∧ x.rows = []) ∨ (i.virt = false ∧ ∃ cur ty, w.heap[i.g]? = some (.cells cur ty (0, 0)) ∧ cur.size = i.cap * i.e ∧ i.n ≤ i.cap ∧ i.cap ≤ maxLen ∧
    RowsIn m (if x.flat then 0 else k) x.e x.rows cur)
  ne : x.e < mapE

/-- the entries of a map -/
def MapIn (m : Mem) (k : Nat) (rows : List (List PV)) (es : Array MapEntry) : Prop :=
  es.size = rows.length ∧ ∀ (r : Nat) (row : List PV), rows[r]? = some row → ∃ kp vp e, row = [kp, vp] ∧ es[r]? = some e ∧ Rep m k kp e.key ∧ Rep m k vp e.val

/-- the entries' stamps -/
def BornOk (es : Array MapEntry) (clock : Nat) : Prop := (∀ e ∈ es.toList, e.born < clock) ∧ (es.toList.map (·.born)).Nodup

structure MapAt (m : Mem) (k : Nat) (w : World) (i : Info) (x : Blk) : Prop where
  ver : i.ver = x.ver
  e : x.e = mapE
  virt : i.virt = false
  mem : ∃ es clock, w.heap[i.g]? = some (.map es clock) ∧ MapIn m (if x.flat then 0 else k) x.rows es ∧ BornOk es clock

/-- an object that is known as it stands -/
structure ObjAt (w : World) (i : Info) (x : Blk) : Prop where
  ver : i.ver = x.ver
  e : x.e = iterE
  virt : i.virt = false
  mem : ∃ ob, w.heap[i.g]? = some ob ∧ x.flat = true ∧ x.rows = [[.ob ob, .int .i64 (i.g : Int)]]

def At (m : Mem) (k : Nat) (w : World) (i : Info) (x : Blk) : Prop := BlkAt m k w i x ∨ MapAt m k w i x ∨ ObjAt w i x

structure Owns (B : Nat) (m : Mem) (k : Nat) (w : World) (bl : Blks) : Prop where
  at_ : ∀ id x i, bl[id]? = some (some x) → m.blk id = some i → At m k w i x
  base : ∀ id x i, bl[id]? = some (some x) → m.blk id = some i → i.virt = false → B ≤ i.g ∧ ∀ o, m.cell i.g o = none
  inj : ∀ id x i id' x' i', bl[id]? = some (some x) → m.blk id = some i → bl[id']? = some (some x') → m.blk id' = some i' → i.virt = false → i'.virt = false → i.g = i'.g → id = id'

theorem RowsIn.mono {m m' : Mem} {k k' e : Nat} {rows cur} (h : RowsIn m k e rows cur) (hm : MLe k m m') (hk : k ≤ k') : RowsIn m' k' e rows cur :=
  fun r row j p hr hp => by obtain ⟨v, h1, h2, h3⟩ := h r row j p hr hp; exact ⟨v, h1, h2, (h3.mono hm).up hk⟩

theorem BlkAt.mono {m m' : Mem} {k k' : Nat} {w w' : World} {i : Info} {x : Blk} (h : BlkAt m k w i x) (hm : MLe k m m') (hk : k ≤ k') (hw : i.virt = false → w'.heap[i.g]? = w.heap[i.g]?) : BlkAt m' k' w' i x := by
  refine ⟨h.ver, h.e, h.n, h.rowl, ?_, h.ne⟩
  rcases h.mem with h | ⟨hv, cur, ty, h1, h3, h4, h5, h6⟩
  · exact .inl h
  · refine .inr ⟨hv, cur, ty, (hw hv).trans h1, h3, h4, h5, ?_⟩
    cases hx : x.flat
    · rw [hx] at h6
      simp only [Bool.false_eq_true, if_false] at h6 ⊢
      exact h6.mono hm hk
    · rw [hx] at h6
      simp only [if_true] at h6 ⊢
      exact h6.mono (hm.le (Nat.zero_le _)) (Nat.le_refl _)

theorem BlkAt.lt {m : Mem} {k : Nat} {w : World} {i : Info} {x : Blk} (h : BlkAt m k w i x) (hv : i.virt = false) : i.g < w.heap.size := by
  rcases h.mem with ⟨h, _⟩ | ⟨_, cur, ty, h1, _⟩
  · rw [hv] at h; cases h
  · exact (Array.getElem?_eq_some_iff.1 h1).1

theorem MapIn.mono {m m' : Mem} {k k' : Nat} {rows es} (h : MapIn m k rows es) (hm : MLe k m m') (hk : k ≤ k') : MapIn m' k' rows es :=
  ⟨h.1, fun r row hr => by obtain ⟨kp, vp, e, h1, h2, h3, h4⟩ := h.2 r row hr; exact ⟨kp, vp, e, h1, h2, (h3.mono hm).up hk, (h4.mono hm).up hk⟩⟩
theorem MapAt.mono {m m' : Mem} {k k' : Nat} {w w' : World} {i : Info} {x : Blk} (h : MapAt m k w i x) (hm : MLe k m m') (hk : k ≤ k') (hw : i.virt = false → w'.heap[i.g]? = w.heap[i.g]?) : MapAt m' k' w' i x := by
  obtain ⟨es, clock, h1, h2, h4⟩ := h.mem
  refine ⟨h.ver, h.e, h.virt, es, clock, (hw h.virt).trans h1, ?_, h4⟩
  cases hx : x.flat
  · rw [hx] at h2; exact h2.mono hm hk
  · rw [hx] at h2; exact h2.mono (hm.le (Nat.zero_le _)) (Nat.le_refl _)
theorem At.mono {m m' : Mem} {k k' : Nat} {w w' : World} {i : Info} {x : Blk} (h : At m k w i x) (hm : MLe k m m') (hk : k ≤ k') (hw : i.virt = false → w'.heap[i.g]? = w.heap[i.g]?) : At m' k' w' i x := by
  rcases h with h | h | h
  · exact .inl (h.mono hm hk hw)
  · exact .inr (.inl (h.mono hm hk hw))
  · obtain ⟨ob, h1, h2, h3⟩ := h.mem
    exact .inr (.inr ⟨h.ver, h.e, h.virt, ob, (hw h.virt).trans h1, h2, h3⟩)
theorem At.lt {m : Mem} {k : Nat} {w : World} {i : Info} {x : Blk} (h : At m k w i x) (hv : i.virt = false) : i.g < w.heap.size := by
  rcases h with h | h | h
  · exact h.lt hv
  · obtain ⟨es, clock, h1, _⟩ := h.mem
    exact (Array.getElem?_eq_some_iff.1 h1).1
  · obtain ⟨ob, h1, _⟩ := h.mem
    exact (Array.getElem?_eq_some_iff.1 h1).1
theorem At.blk {m : Mem} {k : Nat} {w : World} {i : Info} {x : Blk} (h : At m k w i x) (he : x.e < mapE) : BlkAt m k w i x := by
  rcases h with h | h | h
  · exact h
  · have := h.e; omega
  · have := h.e; simp only [mapE, iterE] at *; omega
theorem At.map {m : Mem} {k : Nat} {w : World} {i : Info} {x : Blk} (h : At m k w i x) (he : x.e = mapE) : MapAt m k w i x := by
  rcases h with h | h | h
  · have := h.ne; omega
  · exact h
  · have := h.e; simp only [mapE, iterE] at *; omega
theorem At.obj {m : Mem} {k : Nat} {w : World} {i : Info} {x : Blk} (h : At m k w i x) (he : x.e = iterE) : ObjAt w i x := by
  rcases h with h | h | h
  · have := h.ne; simp only [mapE, iterE] at *; omega
  · have := h.e; simp only [mapE, iterE] at *; omega
  · exact h

structure Keeps (k : Nat) (m m' : Mem) : Prop where
  cell : ∀ b o v, m.cell b o = some v → m'.cell b o = some v
  blk : ∀ b i, m.blk b = some i → m'.blk b = some i

theorem Keeps.refl (k : Nat) (m : Mem) : Keeps k m m := ⟨fun _ _ _ h => h, fun _ _ h => h⟩
theorem Keeps.mle {k j : Nat} {m m' : Mem} (h : Keeps k m m') : MLe j m m' := ⟨h.cell, fun b i _ hi => ⟨i, h.blk b i hi, .inl rfl⟩⟩

/-- what is owned when the world has grown -/
theorem Owns.ext {B : Nat} {m m' : Mem} {k k' : Nat} {w w' : World} {bl : Blks} (h : Owns B m k w bl) (hm : Keeps k m m') (hk : k ≤ k') (hB : B ≤ w.heap.size)
    (hw : ∀ b, b < w.heap.size → w'.heap[b]? = w.heap[b]?) (hcel : ∀ b o v, m'.cell b o = some v → m.cell b o = some v ∨ w.heap.size ≤ b)
    (hnew : ∀ id x i, bl[id]? = some (some x) → m'.blk id = some i → m.blk id = some i ∨
      (At m' k' w' i x ∧ (i.virt = false → w.heap.size ≤ i.g ∧ (∀ o, m'.cell i.g o = none) ∧ ∀ id' x' i', bl[id']? = some (some x') → m'.blk id' = some i' → m.blk id' = none → i'.virt = false → i'.g = i.g → id' = id))) :
    Owns B m' k' w' bl := by
  refine ⟨fun id x i hx hi => ?_, fun id x i hx hi hv => ?_, fun id x i id' x' i' hx hi hx' hi' hv hv' hg => ?_⟩
  · rcases hnew id x i hx hi with ho | ⟨hb, _⟩
    · exact (h.at_ id x i hx ho).mono hm.mle hk (fun hv => hw _ ((h.at_ id x i hx ho).lt hv))
    · exact hb
  · rcases hnew id x i hx hi with ho | ⟨_, hb⟩
    · obtain ⟨h1, h2⟩ := h.base id x i hx ho hv
      refine ⟨h1, fun o => ?_⟩
      cases hc : m'.cell i.g o with
      | none => rfl
      | some v =>
        rcases hcel _ _ _ hc with hc | hc
        · rw [h2 o] at hc; cases hc
        · have := (h.at_ id x i hx ho).lt hv; omega
    · obtain ⟨h1, h2, _⟩ := hb hv
      exact ⟨Nat.le_trans hB h1, h2⟩
  · rcases hnew id x i hx hi with ho | ⟨_, hb⟩
    · rcases hnew id' x' i' hx' hi' with ho' | ⟨_, hb'⟩
      · exact h.inj id x i id' x' i' hx ho hx' ho' hv hv' hg
      · obtain ⟨h1, _⟩ := hb' hv'
        have := (h.at_ id x i hx ho).lt hv
        omega
    · rcases hnew id' x' i' hx' hi' with ho' | ⟨_, hb'⟩
      · obtain ⟨h1, _⟩ := hb hv
        have := (h.at_ id' x' i' hx' ho').lt hv'
        omega
      · obtain ⟨_, _, h3⟩ := hb hv
        obtain ⟨h1, _, _⟩ := hb' hv'
        cases hn : m.blk id' with
        | none => exact (h3 id' x' i' hx' hi' hn hv' hg.symm).symm
        | some j =>
          have := hm.blk _ _ hn
          rw [hi'] at this
          cases this
          have := (h.at_ id' x' i' hx' hn).lt hv'
          omega

/-- what an operation that changes no block leaves -/
structure PurOut (B : Nat) (k : Nat) (m : Mem) (w : World) (n0 : Nat) (n : Nat) (BL : Blks) (p : PV) (v : Value) (m' : Mem) (w' : World) (k' : Nat) : Prop where
  rep : Rep m' k' p v
  keep : Keeps k m m'
  kk : k ≤ k'
  frz : FrzOk m' w'
  own : Owns B m' k' w' BL
  bel : Below w.heap.size w w'
  cel : ∀ b o v, m'.cell b o = some v → m.cell b o = some v ∨ w.heap.size ≤ b
  blk : ∀ id, m'.blk id = m.blk id ∨ (n0 ≤ id ∧ id < n0 + n)
  made : ∀ j, j < n → m'.blk (n0 + j) ≠ none

theorem PurOut.same {B k m w n0 BL p v} (hf : FrzOk m w) (ho : Owns B m k w BL) (hr : Rep m k p v) : PurOut B k m w n0 0 BL p v m w k :=
  ⟨hr, Keeps.refl _ _, Nat.le_refl _, hf, ho, Below.refl _ _, fun _ _ _ h => .inl h, fun _ => .inl rfl, fun _ h => absurd h (by omega)⟩

theorem frz_grow {m : Mem} {w w' : World} (h : FrzOk m w) (hw : ∀ b, b < w.heap.size → w'.heap[b]? = w.heap[b]?) : FrzOk m w' := ⟨fun b o v hc => by
  obtain ⟨h1, h2⟩ := h.1 b o v hc
  have hlt : b < w.heap.size := World.block_lt_of_cell? w ⟨b, o, none⟩ h1
  exact ⟨(World.cell?_of_block (w := w) (a := ⟨b, o, none⟩) (hw b hlt)).trans h1, h2⟩, h.2.1, fun g ob hg => by
  obtain ⟨⟨u, hu⟩, h3⟩ := h.2.2 g ob hg
  have hlt : g < w.heap.size := World.block_lt_of_cell? w ⟨g, 0, none⟩ (h.1 g 0 u (h.2.1 g 0 u hu)).1
  exact ⟨⟨u, hu⟩, (hw g hlt).trans h3⟩⟩

theorem frz_none {m : Mem} {w : World} (h : FrzOk m w) (o : Nat) {b : Nat} (hb : w.heap.size ≤ b) : m.cell b o = none := by
  cases hc : m.cell b o with
  | none => rfl
  | some v => have := World.block_lt_of_cell? w ⟨b, o, none⟩ (h.1 b o v hc).1; simp at this; omega

def Mem.addBlk (m : Mem) (id : Nat) (i : Info) : Mem := ⟨m.cell, fun j => if j = id then some i else m.blk j⟩
theorem Mem.addBlk_same (m : Mem) (id : Nat) (i : Info) : (m.addBlk id i).blk id = some i := by simp [Mem.addBlk]
theorem Mem.addBlk_keeps {m : Mem} {id : Nat} (i : Info) (k : Nat) (h : m.blk id = none) : Keeps k m (m.addBlk id i) :=
  ⟨fun _ _ _ h => h, fun b j hb => by
    have : b ≠ id := fun e => by subst e; rw [h] at hb; cases hb
    simp [Mem.addBlk, this, hb]⟩

/-- one new block of the call's own (or one that is nowhere yet) -/
theorem PurOut.newA {B k : Nat} {m : Mem} {w w' : World} {n0 : Nat} {BL : Blks} {p : PV} {v : Value} {x : Blk} (i : Info) (hf : FrzOk m w) (ho : Owns B m k w BL) (hB : B ≤ w.heap.size)
    (hx : BL[n0]? = some (some x)) (hfr : m.blk n0 = none) (hbel : Below w.heap.size w w')
    (hat : At m k w' i x) (hg : i.virt = false → w.heap.size ≤ i.g) (hr : Rep (m.addBlk n0 i) (k + n0 + 1) p v) : PurOut B k m w n0 1 BL p v (m.addBlk n0 i) w' (k + n0 + 1) := by
  have hk : Keeps k m (m.addBlk n0 i) := Mem.addBlk_keeps i k hfr
  refine ⟨hr, hk, by omega, ⟨fun b o v hc => (frz_grow hf hbel.block).1 b o v hc, (frz_grow hf hbel.block).2⟩, ?_, hbel, fun _ _ _ h => .inl h, fun id => ?_, fun j hj => ?_⟩
  · refine ho.ext hk (by omega) hB hbel.block (fun _ _ _ h => .inl h) (fun id y j hy hj => ?_)
    by_cases e : id = n0
    · subst e
      rw [Mem.addBlk_same] at hj
      cases hj
      rw [hx] at hy
      cases hy
      refine .inr ⟨hat.mono hk.mle (by omega) (fun _ => rfl), fun hv => ⟨hg hv, fun o => frz_none hf o (hg hv), fun id' x' i' hx' hi' hn _ _ => ?_⟩⟩
      by_cases e' : id' = id
      · exact e'
      · simp [Mem.addBlk, e'] at hi'; rw [hn] at hi'; cases hi'
    · left
      simpa [Mem.addBlk, e] using hj
  · by_cases e : id = n0
    · exact .inr ⟨by omega, by omega⟩
    · left; simp [Mem.addBlk, e]
  · obtain rfl : j = 0 := by omega
    simp [Mem.addBlk]

theorem PurOut.new {B k : Nat} {m : Mem} {w w' : World} {n0 : Nat} {BL : Blks} {p : PV} {v : Value} {x : Blk} (i : Info) (hf : FrzOk m w) (ho : Owns B m k w BL) (hB : B ≤ w.heap.size)
    (hx : BL[n0]? = some (some x)) (hfr : m.blk n0 = none) (hbel : Below w.heap.size w w')
    (hat : BlkAt m k w' i x) (hg : i.virt = false → w.heap.size ≤ i.g) (hr : Rep (m.addBlk n0 i) (k + n0 + 1) p v) : PurOut B k m w n0 1 BL p v (m.addBlk n0 i) w' (k + n0 + 1) :=
  PurOut.newA i hf ho hB hx hfr hbel (.inl hat) hg hr

/-- frozen cells at a new block -/
def Mem.addFrz (m : Mem) (g : Nat) (c : Nat → Option Value) : Mem := ⟨fun b o => if b = g then c o else m.cell b o, m.blk⟩

theorem PurOut.frozen {B k : Nat} {m : Mem} {w w' : World} {n0 : Nat} {BL : Blks} {p : PV} {v : Value} (c : Nat → Option Value) (hf : FrzOk m w) (ho : Owns B m k w BL) (hB : B ≤ w.heap.size)
    (hbel : Below w.heap.size w w') (hc : ∀ o v, c o = some v → w'.cell? ⟨w.heap.size, o, none⟩ = some v ∧ v.oneCell' = true) (hr : Rep (m.addFrz w.heap.size c) k p v) :
    PurOut B k m w n0 0 BL p v (m.addFrz w.heap.size c) w' k := by
  have hk : Keeps k m (m.addFrz w.heap.size c) := ⟨fun b o v h => by
    have : b ≠ w.heap.size := fun e => by subst e; rw [frz_none hf o (Nat.le_refl _)] at h; cases h
    simp [Mem.addFrz, this, h], fun _ _ h => h⟩
  have hcel : ∀ b o v, (m.addFrz w.heap.size c).cell b o = some v → m.cell b o = some v ∨ w.heap.size ≤ b := fun b o v h => by
    by_cases e : b = w.heap.size
    · exact .inr (by omega)
    · simp [Mem.addFrz, e] at h; exact .inl h
  refine ⟨hr, hk, Nat.le_refl _, ⟨fun b o v h => ?_, fun b o v h => hk.cell b o v (hf.2.1 b o v h), (frz_grow hf hbel.block).2.2⟩, ?_, hbel, hcel, fun _ => .inl rfl, fun _ h => absurd h (by omega)⟩
  · by_cases e : b = w.heap.size
    · subst e; simp [Mem.addFrz] at h; exact hc o v h
    · simp [Mem.addFrz, e] at h; exact (frz_grow hf hbel.block).1 b o v h
  · exact ho.ext hk (Nat.le_refl _) hB hbel.block hcel (fun id x i _ hi => .inl hi)

end Go.Proofs.Ytlnaibkpmklkiaa
