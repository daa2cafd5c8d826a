/- Byte slices that are read: what is known of one, its beginnings, an append onto one that has no room. -/
import Derived.Test.YtdchodjfgeglgaaProg
import Derived.Test.YtdchodjfgeglgaaPlain
import Derived.Test.YtdchodjfgeglgaaWords
import Derived.Deep.AppendSrc
import Derived.Deep.Upon
import Derived.Deep.RegionLaw
import Derived.WalkKit
import Derived.ProofKit
import Derived.OpenShut
import Derived.Below
import Derived.ShutString
import Derived.Lib.Hide
namespace Go.Proofs.Ytdchodjfgeglgaa
open Go.ChangeShapes Go.WideShapes Go.ChangeAt Go.RowKit

def BRow (w : World) (a : Option Addr) (zs : List Int) : Prop :=
  zs = [] ∨ ∃ b off, a = some ⟨b, off, none⟩ ∧ ∀ j, j < zs.length → w.cell? ⟨b, off + j, none⟩ = some (.int .u8 (zs.getD j 0))
theorem cell_lt {w : World} {a : Addr} {v : Value} (h : w.cell? a = some v) : a.block < w.heap.size := by
  rcases Nat.lt_or_ge a.block w.heap.size with h1 | h1
  · exact h1
  · simp [World.cell?, Array.getElem?_eq_none h1] at h
theorem BRow.keep {w w' : World} {a : Option Addr} {zs : List Int} (h : BRow w a zs) (hk : ∀ p : Addr, p.block < w.heap.size → w'.cell? p = w.cell? p) : BRow w' a zs := by
  rcases h with rfl | ⟨b, off, rfl, hc⟩
  · exact .inl rfl
  · refine .inr ⟨b, off, rfl, fun j hj => ?_⟩
    rw [hk _ (cell_lt (hc j hj))]
    exact hc j hj
/-- a slice value 'slice A len cap' whose elements are the bytes zs -/
structure Sl (w : World) (a : Option Addr) (cap : Nat) (zs : List Int) : Prop where
  row : BRow w a zs
  inb : InB zs
  reads : Reads w w.heap.size 1 a zs.length (zs.map (Value.int .u8))
  le : zs.length ≤ cap
  max : cap ≤ 9223372036854775807
theorem Sl.keep {w w' : World} {a : Option Addr} {cap : Nat} {zs : List Int} (h : Sl w a cap zs) (hb : Below w.heap.size w w') : Sl w' a cap zs :=
  ⟨h.row.keep fun _ hp => hb.cell hp, h.inb, (h.reads.below hb).more hb.size, h.le, h.max⟩
theorem Sl.nil (w : World) (a : Option Addr) (c : Nat) (hc : c ≤ 9223372036854775807) : Sl w a c [] := ⟨.inl rfl, InB.nil, ⟨by simp, fun h => by simp at h⟩, Nat.zero_le _, hc⟩
theorem Sl.take {w : World} {a : Option Addr} {cap : Nat} {zs : List Int} (h : Sl w a cap zs) (k : Nat) {c : Nat} (hk : (zs.take k).length ≤ c) (hc : c ≤ 9223372036854775807) : Sl w a c (zs.take k) := by
  refine ⟨?_, h.inb.take k, ?_, hk, hc⟩
  · rcases h.row with rfl | ⟨b, off, rfl, hcell⟩
    · exact .inl (by simp)
    · refine .inr ⟨b, off, rfl, fun j hj => ?_⟩
      have h2 : j < k ∧ j < zs.length := by simp at hj; omega
      rw [hcell j h2.2]
      simp [List.getD, h2.1]
  · refine ⟨by simp, fun hn => ?_⟩
    obtain ⟨ad, e, hb, hcell⟩ := h.reads.2 (by simp at hn; omega)
    refine ⟨ad, e, hb, fun j u hu => hcell j u ?_⟩
    rw [← hu, List.map_take, List.getElem?_take, if_pos]
    have := (List.getElem?_eq_some_iff.1 hu).1
    simp at this; omega
theorem Sl.clip {w : World} {a : Option Addr} {cap : Nat} {zs : List Int} (h : Sl w a cap zs) {c : Nat} (hk : zs.length ≤ c) (hc : c ≤ 9223372036854775807) : Sl w a c zs :=
  ⟨h.row, h.inb, h.reads, hk, hc⟩
theorem conv_row {w : World} {a : Option Addr} {zs : List Int} (h : BRow w a zs) (n cap : Nat) (hn : n = zs.length) : (convert 25 9 (.slice a n cap)).run Try.prog w = .ok (.string (strOfNums zs)) w := by
  subst hn
  rcases h with rfl | ⟨b, off, rfl, hc⟩
  · rcases a with _ | ad
    · exact run_convert_bytes_nil w 25 5 Try.underlying25 Try.underlying5 _ _ 9 Try.underlying9
    · exact run_convert_bytes_back w 25 9 5 ad cap [] Try.underlying25 Try.underlying5 Try.underlying9 (fun j hj => by simp at hj)
  · exact run_convert_bytes_arg w 25 5 Try.underlying25 Try.underlying5 b off _ cap zs rfl hc 9 Try.underlying9
theorem bcell {W w1 : World} (hb : Below W.heap.size W w1) : (∀ b o, b < W.heap.size → w1.cell? ⟨b, o, none⟩ = W.cell? ⟨b, o, none⟩) ∧ (∀ b o, b < W.heap.size → w1.frozen? ⟨b, o, none⟩ = W.frozen? ⟨b, o, none⟩) :=
  ⟨fun b o h => hb.cell (p := ⟨b, o, none⟩) h, fun b o h => hb.frozen (p := ⟨b, o, none⟩) h⟩
theorem one_ {w : World} (A : Obj) : Below w.heap.size w (w.alloc A) := (Below.refl _ _).alloc (Nat.le_refl _) _
theorem two_ {w : World} (A B : Obj) : Below w.heap.size w ((w.alloc A).alloc B) := (one_ A).alloc (by simp) _
theorem three_ {w : World} (A B C : Obj) : Below w.heap.size w (((w.alloc A).alloc B).alloc C) := (two_ A B).alloc (by simp; omega) _
theorem one_u8 (l : List Int) : ∀ u ∈ l.map (Value.int .u8), u.oneCell' = true := by
  intro u hu
  obtain ⟨_, _, rfl⟩ := List.mem_map.1 hu
  rfl
theorem Sl.src {w : World} {a : Option Addr} {cap : Nat} {zs : List Int} (h : Sl w a cap zs) : Src Try.prog 1 25 (.slice a zs.length cap) zs.length (zs.map (Value.int .u8)) w := by
  rcases a with _ | ad
  · have : zs = [] := by
      rcases h.row with h0 | ⟨b, off, e, _⟩
      · exact h0
      · cases e
    subst this
    exact Src.ofNil w Try.underlying25 cap
  · refine Src.ofSlice w Try.underlying25 ad _ _ _ (by simp) ?_ (one_u8 _)
    intro j u hu
    have hj := (List.getElem?_eq_some_iff.1 hu).1
    simp at hj
    obtain ⟨ad', e, _, hc⟩ := h.reads.2 (by omega)
    injection e with e
    subst e
    exact hc j u hu
theorem Sl.first {w : World} {a : Option Addr} {cap : Nat} {zs : List Int} (h : Sl w a cap zs) (c : Nat) : (Builtin.firstCells 1 zs.length (.slice a zs.length c)).run Try.prog w = .ok (zs.map (Value.int .u8)).toArray w := by
  have := (h.src).cells
  rcases a with _ | ad
  · have h0 : zs = [] := by
      rcases h.row with h0 | ⟨b, off, e, _⟩
      · exact h0
      · cases e
    subst h0
    exact run_firstCells_none w 1 0 0 c
  · refine run_firstCells_some w 1 _ ad _ c _ (by simp) ?_
    intro j u hu
    have hj := (List.getElem?_eq_some_iff.1 hu).1
    simp at hj
    obtain ⟨ad', e, _, hc⟩ := h.reads.2 (by omega)
    injection e with e
    subst e
    exact hc j u hu
theorem info5 : ∃ i, Try.prog.info? 5 = some i ∧ i.zero = some (.int .u8 0) ∧ i.size = 1 ∧ i.bytes = 1 := by
  have h : (Try.prog.info? 5).map (fun i => (i.zero, i.size, i.bytes)) = some (some (.int .u8 0), 1, 1) := by kernel_rfl
  obtain ⟨i, hi, h⟩ := Option.map_eq_some_iff.1 h
  simp only [Prod.mk.injEq] at h
  exact ⟨i, hi, h.1, h.2.1, h.2.2⟩
/-- a new row whose first cells are the bytes zs -/
theorem Sl.new (w : World) (zs : List Int) (hin : InB zs) (more : Array Value) (c : Nat) (hc : zs.length ≤ c) (hm : c ≤ 9223372036854775807) :
    Sl (w.alloc (.cells ((zs.map (Value.int .u8)).toArray ++ more) 5)) (some ⟨w.heap.size, 0, none⟩) c zs := by
  have hcell : ∀ j, j < zs.length → (w.alloc (.cells ((zs.map (Value.int .u8)).toArray ++ more) 5)).cell? ⟨w.heap.size, j, none⟩ = some (.int .u8 (zs.getD j 0)) := by
    intro j hj
    rw [World.cell?_alloc_mark, Array.getElem?_append_left (by simpa using hj)]
    simp [List.getD, hj]
  refine ⟨.inr ⟨_, 0, rfl, fun j hj => by rw [Nat.zero_add]; exact hcell j hj⟩, hin, ⟨by simp, fun _ => ⟨_, rfl, by simp, fun j u hj => ?_⟩⟩, hc, hm⟩
  have hj' : j < zs.length := by
    have := (List.getElem?_eq_some_iff.1 hj).1
    simpa using this
  have e : (⟨w.heap.size, 0, none⟩ : Addr).add j = ⟨w.heap.size, j, none⟩ := by unfold Addr.add; split <;> simp_all
  rw [e, hcell j hj', ← hj]
  simp [List.getD, hj']
/-- the row of a slice lies in no block b -/
def Apart (a : Option Addr) (zs : List Int) (b : Nat) : Prop := zs ≠ [] → ∀ ad, a = some ad → ad.block ≠ b
/-- a row that lies in none of the first blocks but those of another row -/
def Stays (B : Nat) (a : Option Addr) (xs : List Int) (a' : Option Addr) (zs : List Int) : Prop := ∀ b, b < B → Apart a xs b → Apart a' zs b
theorem Stays.refl (B : Nat) (a : Option Addr) (xs : List Int) : Stays B a xs a xs := fun _ _ h => h
theorem Stays.nil (B : Nat) (a : Option Addr) (xs : List Int) (a' : Option Addr) : Stays B a xs a' [] := fun _ _ _ h => absurd rfl h
theorem Sl.apart {w : World} {a : Option Addr} {cap : Nat} {zs : List Int} (h : Sl w a cap zs) {b : Nat} (hb : w.heap.size ≤ b) : Apart a zs b := by
  rintro hne ad rfl
  obtain ⟨ad', e, hlt, _⟩ := h.reads.2 (List.length_pos_iff.2 hne)
  injection e with e
  subst e
  omega
theorem Sl.move {w w' : World} {a : Option Addr} {cap : Nat} {zs : List Int} (h : Sl w a cap zs) (hs : w.heap.size ≤ w'.heap.size) (hk : zs ≠ [] → ∀ ad, a = some ad → ∀ p : Addr, p.block = ad.block → w'.cell? p = w.cell? p) : Sl w' a cap zs := by
  rcases List.eq_nil_or_concat zs with rfl | ⟨_, _, e⟩
  · exact Sl.nil w' a cap h.max
  · have hne : zs ≠ [] := by rw [e]; simp
    have hk := hk hne
    refine ⟨?_, h.inb, ⟨h.reads.1, fun hn => ?_⟩, h.le, h.max⟩
    · rcases h.row with h0 | ⟨b, off, rfl, hc⟩
      · exact .inl h0
      · exact .inr ⟨b, off, rfl, fun j hj => (hk _ rfl ⟨b, off + j, none⟩ rfl).trans (hc j hj)⟩
    · obtain ⟨ad, ea, hb, hc⟩ := h.reads.2 hn
      exact ⟨ad, ea, by omega, fun j u hu => (hk _ ea _ (by rw [block_of_add])).trans (hc j u hu)⟩
theorem Sl.setCell {w : World} {a : Option Addr} {cap : Nat} {zs : List Int} (h : Sl w a cap zs) (p : Addr) (u : Value) (hp : Apart a zs p.block) : Sl (w.setCell p u) a cap zs :=
  h.move (by simp) fun hne ad e q hq => World.cell?_setCell_other w p q u (fun e2 => by subst e2; exact hp hne ad e hq.symm)
theorem Sl.alloc {w : World} {a : Option Addr} {cap : Nat} {zs : List Int} (h : Sl w a cap zs) (o : Obj) : Sl (w.alloc o) a cap zs := h.keep ((Below.refl _ _).alloc (Nat.le_refl _) _)
theorem Apart.take {a : Option Addr} {zs : List Int} {b : Nat} (h : Apart a zs b) (k : Nat) : Apart a (zs.take k) b := fun hne => h (fun e => hne (by rw [e]; simp))
/-- a box that holds a disk -/
structure Bx (W : World) (g : Nat) (v0 v1 v2 v3 v4 : Value) : Prop where
  lt : g < W.heap.size
  c0 : W.cell? ⟨g, 0, none⟩ = some v0
  c1 : W.cell? ⟨g, 1, none⟩ = some v1
  c2 : W.cell? ⟨g, 2, none⟩ = some v2
  c3 : W.cell? ⟨g, 3, none⟩ = some v3
  c4 : W.cell? ⟨g, 4, none⟩ = some v4
  fz : ∀ o, W.frozen? ⟨g, o, none⟩ = false
theorem Bx.keep {W W' : World} {g : Nat} {v0 v1 v2 v3 v4 : Value} (h : Bx W g v0 v1 v2 v3 v4) (hb : Below W.heap.size W W') : Bx W' g v0 v1 v2 v3 v4 :=
  ⟨Nat.lt_of_lt_of_le h.lt hb.size, (hb.cell (p := ⟨g, 0, none⟩) h.lt).trans h.c0, (hb.cell (p := ⟨g, 1, none⟩) h.lt).trans h.c1, (hb.cell (p := ⟨g, 2, none⟩) h.lt).trans h.c2, (hb.cell (p := ⟨g, 3, none⟩) h.lt).trans h.c3, (hb.cell (p := ⟨g, 4, none⟩) h.lt).trans h.c4, fun o => (hb.frozen (p := ⟨g, o, none⟩) h.lt).trans (h.fz o)⟩
theorem Bx.alloc {W : World} {g : Nat} {v0 v1 v2 v3 v4 : Value} (h : Bx W g v0 v1 v2 v3 v4) (o : Obj) : Bx (W.alloc o) g v0 v1 v2 v3 v4 := h.keep (one_ o)
theorem Bx.new (W : World) (v0 v1 v2 v3 v4 : Value) : Bx (W.alloc (.cells #[v0, v1, v2, v3, v4] 27)) W.heap.size v0 v1 v2 v3 v4 :=
  ⟨by simp, by simp, by simp, by simp, by simp, by simp, fun o => by go_simp⟩
theorem Bx.new1 (W : World) (o : Obj) (v0 v1 v2 v3 v4 : Value) : Bx ((W.alloc o).alloc (.cells #[v0, v1, v2, v3, v4] 27)) (W.heap.size + 1) v0 v1 v2 v3 v4 := by
  have := Bx.new (W.alloc o) v0 v1 v2 v3 v4
  simpa using this
theorem Stays.take (B : Nat) (a : Option Addr) (xs : List Int) (k : Nat) : Stays B a xs a (xs.take k) := fun _ _ h => h.take k
theorem Bx.new2 (W : World) (o o2 : Obj) (v0 v1 v2 v3 v4 : Value) : Bx (((W.alloc o).alloc o2).alloc (.cells #[v0, v1, v2, v3, v4] 27)) (W.heap.size + 1 + 1) v0 v1 v2 v3 v4 := by
  have := Bx.new ((W.alloc o).alloc o2) v0 v1 v2 v3 v4
  simpa using this
theorem below_step {w W1 W2 : World} (h : Below w.heap.size w W1) (hb : Below W1.heap.size W1 W2) : Below w.heap.size w W2 := h.trans (hb.mono h.size)
theorem run_append_clip (w : World) (ty : TypeId) (A : Option Addr) (c : Nat) (xs : List Int) (h : Sl w A c xs) (B : Option Addr) (cb : Nat) (ys : List Int) (hy : Sl w B cb ys) (hle : xs.length + ys.length ≤ 4000000) :
    ∃ A' c' w', (Builtin.append_ #[25, 25] ty #[.slice A xs.length xs.length, .slice B ys.length cb]).run Try.prog w = .ok (.slice A' (xs.length + ys.length) c') w' ∧ Sl w' A' c' (xs ++ ys) ∧ Below w.heap.size w w' ∧ ∀ b, b < w.heap.size → Apart A xs b → Apart A' (xs ++ ys) b := by
  obtain ⟨i, hi, hz, hs, hby⟩ := info5
  rcases Nat.eq_zero_or_pos ys.length with h0 | h0
  · have hys : ys = [] := List.eq_nil_of_length_eq_zero h0
    subst hys
    have hsrc : Src Try.prog i.size 25 (.slice B 0 cb) 0 [] w := by rw [hs]; exact hy.src
    refine ⟨A, xs.length, w, run_append_nothing w 25 25 ty 5 i Try.underlying25 hi A xs.length xs.length (Nat.le_refl _) _ hsrc, ?_, Below.refl _ _, ?_⟩ <;> rw [List.append_nil]
    · exact h.clip (Nat.le_refl _) (by omega)
    · exact fun _ _ h => h
  · have hsrc : Src Try.prog i.size 25 (.slice B ys.length cb) ys.length (ys.map (Value.int .u8)) w := by rw [hs]; exact hy.src
    have hold : (Builtin.firstCells i.size xs.length (.slice A xs.length xs.length)).run Try.prog w.drew = .ok (xs.map (Value.int .u8)).toArray w.drew := by
      rw [hs]; exact (h.keep (Below.refl _ _).drew).first _
    have hg := grownCap_ge w (xs.length + ys.length) xs.length 5
    have hg2 := grownCap_le_maxLen w (xs.length + ys.length) xs.length 5 (by unfold maxLen; omega)
    unfold maxLen at hg2
    refine ⟨_, _, _, run_append_grow_src w 25 25 ty 5 i _ Try.underlying25 hi hz A xs.length xs.length _ hold _ ys.length _ hsrc (by omega) (by omega) (by rw [hby]; exact growslice_fits (by omega) (by omega)), ?_, (Below.refl _ _).drew.alloc (Nat.le_refl _) _, ?_⟩
    rotate_left
    · rintro b hb _ _ ad e
      injection e with e
      subst e
      simp
      omega
    rw [← List.map_append]
    exact Sl.new w.drew (xs ++ ys) (h.inb.append hy.inb) _ _ (by simpa using hg) (by omega)
theorem wpList_append_clip {ops : Array Oper} {rest : List Oper} {o : Oper} {a : Act} {Q : Exit → Act → World → Prop} (w : World) (hgd : o.guard = none) (s x : Operand)
    (ho : o.op = .call { callee := .builtin .append, args := #[s, x], argTypes := #[25, 25] })
    (A : Option Addr) (c : Nat) (xs : List Int) (hl : Sl w A c xs) (hs : a.eval s = .slice A xs.length xs.length) (B : Option Addr) (cb : Nat) (ys : List Int) (hy : Sl w B cb ys) (hx : a.eval x = .slice B ys.length cb) (hle : xs.length + ys.length ≤ 4000000)
    (h : ∀ A' c' w', Sl w' A' c' (xs ++ ys) → Below w.heap.size w w' → (∀ b, b < w.heap.size → Apart A xs b → Apart A' (xs ++ ys) b) → wpList Try.prog ops Q rest (a.put o.dst (.slice A' (xs.length + ys.length) c')) w') : wpList Try.prog ops Q (o :: rest) a w := by
  obtain ⟨A', c', w', hrun, h2, h3, h4⟩ := run_append_clip w o.type A c xs hl B cb ys hy hle
  refine wpList_plain hgd fun K hK => ?_
  unfold Oper.wp execOp
  simp only [ho, resolve, invoke, builtin, Sem.run_bind, Sem.run_pure, Result.andThen_ok, List.map_toArray, List.map_cons, List.map_nil, hs, hx, hrun]
  exact hK _ _ (h A' c' w' h2 h3 h4)
theorem step_append_clip {ops : Array Oper} {o : Oper} {a : Act} {K : Act → World → Prop} {Q : Exit → Act → World → Prop} {E : Prop} {w : World} (hgd : o.guard = none) (s x : Operand)
    (ho : o.op = .call { callee := .builtin .append, args := #[s, x], argTypes := #[25, 25] })
    (A : Option Addr) (c : Nat) (xs : List Int) (hl : Sl w A c xs) (hs : a.eval s = .slice A xs.length xs.length) (B : Option Addr) (cb : Nat) (ys : List Int) (hy : Sl w B cb ys) (m : Nat) (hm : m = ys.length) (hx : a.eval x = .slice B m cb) (hle : xs.length + ys.length ≤ 4000000)
    (h : ∀ A' c' w', Sl w' A' c' (xs ++ ys) → Below w.heap.size w w' → (∀ b, b < w.heap.size → Apart A xs b → Apart A' (xs ++ ys) b) → K (a.put o.dst (.slice A' (xs.length + ys.length) c')) w') :
    if Region.wanted o (yielded ops a.tmps) = true then Oper.wp Try.prog o a w K Q else E := by
  have hw : Region.wanted o (yielded ops a.tmps) = true := by simp [Region.wanted, hgd]
  rw [if_pos hw]
  subst hm
  obtain ⟨A', c', w', hrun, h2, h3, h4⟩ := run_append_clip w o.type A c xs hl B cb ys hy hle
  unfold Oper.wp execOp
  simp only [ho, resolve, invoke, builtin, Sem.run_bind, Sem.run_pure, Result.andThen_ok, List.map_toArray, List.map_cons, List.map_nil, hs, hx, hrun]
  exact h A' c' w' h2 h3 h4
theorem sl_of_own {w : World} {base : Nat} {A : Option Addr} {n c : Nat} {zs : List Int} (hin : InB zs) (h : w.ownsRow base 5 1 (.slice A n c) n (zs.map (Value.int .u8))) : n = zs.length ∧ Sl w A c zs := by
  have hr := Reads.of_own h
  have hn : n = zs.length := by have := h.1; simp at this; omega
  subst hn
  refine ⟨rfl, ?_, hin, hr, ?_, ?_⟩
  · rcases Nat.eq_zero_or_pos zs.length with h0 | h0
    · exact .inl (List.eq_nil_of_length_eq_zero h0)
    · obtain ⟨g, cap, hv, _, _⟩ := h.form h0
      injection hv with hv _
      subst hv
      refine .inr ⟨g, 0, rfl, fun j hj => ?_⟩
      have := h.cells (g := g) rfl j (.int .u8 (zs.getD j 0)) (by simp [List.getD, hj])
      have e : (⟨g, 0, none⟩ : Addr).add j = ⟨g, 0 + j, none⟩ := by unfold Addr.add; split <;> simp_all
      rw [e] at this
      exact this
  · rcases h.2 with ⟨e, h0⟩ | ⟨g, cap, cur, e, _, _, h4, h5, _⟩
    · omega
    · injection e with _ _ e; omega
  · rcases h.2 with ⟨e, h0⟩ | ⟨g, cap, cur, e, _, _, h4, h5, _⟩
    · injection e with _ _ e; omega
    · injection e with _ _ e; unfold maxLen at h5; omega
end Go.Proofs.Ytdchodjfgeglgaa
