/- slices.Sort of ints at this program, as the shelf gives it; as a given function upon the caller's own slice. -/
import Derived.Test.YtnodcoemjojlhaaDoorSh
import Derived.Shelf.Sort.Plain
import Derived.Sort.OwnSortedInts
namespace Go.Proofs
open Go.Shelf
def Tryd.lays189_ren : Go.Shelf.Ren := ⟨fun | 189 => 33 | 125 => 40 | 257 => 39 | 128 => 55 | 129 => 44 | 294 => 46 | 295 => 47 | 296 => 48 | 297 => 49 | 298 => 50 | 299 => 51 | 216 => 52 | 300 => 53 | 301 => 54 | 328 => 62 | 329 => 63 | 330 => 64 | 331 => 65 | 332 => 66 | 215 => 67 | 343 => 75 | n => n, fun | 28 => 30 | 3 => 3 | 46 => 49 | 0 => 0 | 51 => 63 | 53 => 37 | 4 => 4 | 183 => 58 | 182 => 57 | 131 => 22 | 5 => 5 | 9 => 9 | 218 => 72 | 222 => 76 | 228 => 88 | 229 => 89 | n => n, fun | n => n⟩
theorem Tryd.lays189 : Go.Proofs.Lays.n189 Tryd.prog Tryd.lays189_ren := {
  mixed := by kernel_rfl
  f125 := Tryd.func40.trans (congrArg some (by kernel_rfl))
  f128 := Tryd.func55.trans (congrArg some (by kernel_rfl))
  f129 := Tryd.func44.trans (congrArg some (by kernel_rfl))
  f189 := Tryd.func33.trans (congrArg some (by kernel_rfl))
  f215 := Tryd.func67.trans (congrArg some (by kernel_rfl))
  f216 := Tryd.func52.trans (congrArg some (by kernel_rfl))
  f257 := Tryd.func39.trans (congrArg some (by kernel_rfl))
  f294 := Tryd.func46.trans (congrArg some (by kernel_rfl))
  f295 := Tryd.func47.trans (congrArg some (by kernel_rfl))
  f296 := Tryd.func48.trans (congrArg some (by kernel_rfl))
  f297 := Tryd.func49.trans (congrArg some (by kernel_rfl))
  f298 := Tryd.func50.trans (congrArg some (by kernel_rfl))
  f299 := Tryd.func51.trans (congrArg some (by kernel_rfl))
  f300 := Tryd.func53.trans (congrArg some (by kernel_rfl))
  f301 := Tryd.func54.trans (congrArg some (by kernel_rfl))
  f328 := Tryd.func62.trans (congrArg some (by kernel_rfl))
  f329 := Tryd.func63.trans (congrArg some (by kernel_rfl))
  f330 := Tryd.func64.trans (congrArg some (by kernel_rfl))
  f331 := Tryd.func65.trans (congrArg some (by kernel_rfl))
  f332 := Tryd.func66.trans (congrArg some (by kernel_rfl))
  f343 := Tryd.func75.trans (congrArg some (by kernel_rfl))
  t0 := Tryd.underlying0
  a0 := Tryd.isAgg0
  z0 := Tryd.sizeOf0
  v0 := Tryd.zeroValue0
  t3 := Tryd.underlying3
  a3 := Tryd.isAgg3
  z3 := Tryd.sizeOf3
  v3 := Tryd.zeroValue3
  t4 := Tryd.underlying4
  a4 := Tryd.isAgg4
  z4 := Tryd.sizeOf4
  v4 := Tryd.zeroValue4
  t5 := Tryd.underlying5
  a5 := Tryd.isAgg5
  z5 := Tryd.sizeOf5
  v5 := Tryd.zeroValue5
  t9 := Tryd.underlying9
  a9 := Tryd.isAgg9
  z9 := Tryd.sizeOf9
  v9 := Tryd.zeroValue9
  t28 := Tryd.underlying30
  a28 := Tryd.isAgg30
  z28 := Tryd.sizeOf30
  v28 := Tryd.zeroValue30
  t46 := Tryd.underlying49
  a46 := Tryd.isAgg49
  z46 := Tryd.sizeOf49
  v46 := Tryd.zeroValue49
  t51 := Tryd.underlying63
  a51 := Tryd.isAgg63
  z51 := Tryd.sizeOf63
  v51 := Tryd.zeroValue63
  t53 := Tryd.underlying37
  a53 := Tryd.isAgg37
  z53 := Tryd.sizeOf37
  v53 := Tryd.zeroValue37
  t131 := Tryd.underlying22
  a131 := Tryd.isAgg22
  z131 := Tryd.sizeOf22
  v131 := Tryd.zeroValue22
  t182 := Tryd.underlying57
  a182 := Tryd.isAgg57
  z182 := Tryd.sizeOf57
  v182 := Tryd.zeroValue57
  t183 := Tryd.underlying58
  a183 := Tryd.isAgg58
  z183 := Tryd.sizeOf58
  v183 := Tryd.zeroValue58
  t218 := Tryd.underlying72
  a218 := Tryd.isAgg72
  z218 := Tryd.sizeOf72
  v218 := Tryd.zeroValue72
  t222 := Tryd.underlying76
  a222 := Tryd.isAgg76
  z222 := Tryd.sizeOf76
  v222 := Tryd.zeroValue76
  t228 := Tryd.underlying88
  a228 := Tryd.isAgg88
  z228 := Tryd.sizeOf88
  v228 := Tryd.zeroValue88
  t229 := Tryd.underlying89
  a229 := Tryd.isAgg89
  z229 := Tryd.sizeOf89
  v229 := Tryd.zeroValue89 }
end Go.Proofs
namespace Go.Proofs.YtnodcoemjojlhaaDoor
open Go Go.RowKit Go.Sort
set_option linter.unusedVariables false
set_option linter.unusedSectionVars false
set_option linter.unusedSimpArgs false

def intsOf : List (List PV) → Option (List Int)
  | [] => some []
  | [.int .i64 z] :: r => match intsOf r with
    | some l => some (z :: l)
    | none => none
  | _ => none
def insZ (z : Int) : List Int → List Int
  | [] => [z]
  | y :: r => if z ≤ y then z :: y :: r else y :: insZ z r
def sortZ : List Int → List Int
  | [] => []
  | z :: r => insZ z (sortZ r)
theorem insZ_perm (z : Int) : ∀ l, (insZ z l).Perm (z :: l)
  | [] => .refl _
  | y :: r => by
    unfold insZ
    split
    · exact .refl _
    · exact ((insZ_perm z r).cons y).trans (.swap z y r)
theorem sortZ_perm : ∀ l, (sortZ l).Perm l
  | [] => .refl _
  | z :: r => (insZ_perm z (sortZ r)).trans ((sortZ_perm r).cons z)
theorem insZ_sorted (z : Int) : ∀ l : List Int, l.Pairwise (fun a b => decide (a ≤ b) = true) → (insZ z l).Pairwise (fun a b => decide (a ≤ b) = true)
  | [], _ => by simp [insZ]
  | y :: r, h => by
    have h' := List.pairwise_cons.1 h
    unfold insZ
    split
    · rename_i hz
      refine List.pairwise_cons.2 ⟨fun a ha => ?_, h⟩
      rcases List.mem_cons.1 ha with rfl | ha
      · simpa using hz
      · have := h'.1 a ha
        simp at this ⊢; omega
    · rename_i hz
      refine List.pairwise_cons.2 ⟨fun a ha => ?_, insZ_sorted z r h'.2⟩
      have ha' := (insZ_perm z r).mem_iff.1 ha
      rcases List.mem_cons.1 ha' with rfl | ha'
      · simp; omega
      · exact h'.1 a ha'
theorem sortZ_sorted : ∀ l, (sortZ l).Pairwise (fun a b => decide (a ≤ b) = true)
  | [] => .nil
  | z :: r => insZ_sorted z _ (sortZ_sorted r)
theorem sortZ_eq (l : List Int) : (l.mergeSort fun x y => decide (x ≤ y)) = sortZ l := by
  refine List.Perm.eq_of_pairwise (le := fun a b => decide (a ≤ b) = true) (fun a b _ _ h1 h2 => by simp only [decide_eq_true_eq] at h1 h2; omega) ?_ (sortZ_sorted l) ((List.mergeSort_perm l _).trans (sortZ_perm l).symm)
  exact List.pairwise_mergeSort (fun a b c h1 h2 => by simp only [decide_eq_true_eq] at *; omega) (fun a b => by simp; omega) l
def intRows (zs : List Int) : List (List PV) := zs.map fun z => [.int .i64 z]
theorem intsOf_eq : ∀ {rows : List (List PV)} {zs : List Int}, intsOf rows = some zs → rows = intRows zs
  | [], zs, h => by simp [intsOf] at h; subst h; rfl
  | [.int .i64 z] :: r, zs, h => by
    simp only [intsOf] at h
    split at h
    · rename_i l hl
      cases h
      rw [intsOf_eq hl]; rfl
    · cases h
  | [] :: r, zs, h => by simp [intsOf] at h
  | (p :: q :: t) :: r, zs, h => by simp [intsOf] at h
theorem intsOf_rows (zs : List Int) : intsOf (intRows zs) = some zs := by
  induction zs with
  | nil => rfl
  | cons z zs ih => simp only [intRows, List.map_cons, intsOf] at ih ⊢; rw [ih]
/-- slices.Sort upon a slice of the caller's own that is the whole block -/
def xSort : List PV → Blks → Option (PV × Blks)
  | [.own b ver lo len], bl => match getB bl b ver with
    | some x => if x.e = 1 ∧ lo = 0 ∧ len = x.rows.length ∧ 0 < len ∧ len < 1000000 then match intsOf x.rows with
        | some zs => some (.tup [], bl.set b (some ⟨x.ver, x.e, x.flat, intRows (sortZ zs)⟩))
        | none => none
      else none
    | none => none
  | _, _ => none
theorem one_argk {m : Mem} {k : Nat} {p : PV} {vs : Array Value} (hl : [p].length = vs.size) (hr : ∀ (i : Nat) (q : PV), [p][i]? = some q → Rep m k q (vs.getD i undef)) : ∃ v, vs = #[v] ∧ Rep m k p v := by
  have h0 := hr 0 _ rfl
  obtain ⟨l⟩ := vs
  cases l with
  | nil => simp at hl
  | cons v l =>
    cases l with
    | cons a l => simp at hl
    | nil => exact ⟨v, rfl, h0⟩
theorem sortZ_len (zs : List Int) : (sortZ zs).length = zs.length := (sortZ_perm zs).length_eq
theorem rows_take {m : Mem} {k : Nat} {zs : List Int} {cur : Array Value} (h : RowsIn m k 1 (intRows zs) cur) (hs : zs.length ≤ cur.size) : cur.toList.take zs.length = zs.map (Value.int .i64) := by
  apply List.ext_getElem?
  intro j
  by_cases hj : j < zs.length
  · obtain ⟨v, h1, _, h3⟩ := h j [.int .i64 zs[j]] 0 (.int .i64 zs[j]) (by simp [intRows, hj]) rfl
    have : v = .int .i64 zs[j] := by cases h3; rfl
    subst this
    rw [List.getElem?_take_of_lt hj, Array.getElem?_toList]
    simp only [Nat.mul_one, Nat.add_zero] at h1
    rw [h1]
    simp [hj]
  · rw [List.getElem?_take_eq_none (by omega), List.getElem?_eq_none (by simp; omega)]
variable [Bs]
theorem ext33 : ExtSOk Tryd.prog 33 xSort := by
  intro args bl p bl' h
  unfold xSort at h
  split at h
  · rename_i b ver lo len
    split at h
    · rename_i x hx
      split at h
      · rename_i hc
        obtain ⟨e1, rfl, hlen, hpos, hmax⟩ := hc
        split at h
        · rename_i zs hzs
          cases h
          have hrows := intsOf_eq hzs
          have hblx : bl[b]? = some (some x) ∧ x.ver = ver := by
            unfold getB at hx
            split at hx
            · rename_i y hy
              split at hx
              · rename_i hh; cases hx; exact ⟨hy, hh.1⟩
              · cases hx
            · cases hx
          obtain ⟨hb, hver⟩ := hblx
          have hlz : len = zs.length := by rw [hlen, hrows]; simp [intRows]
          refine ⟨⟨Tryd.f33, Tryd.func33, rfl, by decide⟩, fun B k m w vs hl hr hin => ?_⟩
          obtain ⟨v, rfl, h1⟩ := one_argk hl hr
          obtain ⟨i, hbk, hi, hvi, _, ho⟩ := own_inv h1
          have hat := At.blk (hin.own.at_ b x i hb hi) (by rw [e1]; decide)
          have hv := ho (by rw [hat.ver, hver])
          rcases hv with ⟨h0, _⟩ | ⟨hvirt, cap, rfl, hcap1, hcap2, hcap3⟩
          · omega
          rcases hat.mem with ⟨hv, _⟩ | ⟨_, cur, ty, hheap, hsize, hn1, hn2, hri⟩
          · rw [hvirt] at hv; cases hv
          have hie : i.e = 1 := by rw [hat.e, e1]
          have hin' : i.n = zs.length := by rw [hat.n, hrows]; simp [intRows]
          rw [e1, hrows] at hri
          have htake := rows_take hri (by rw [hsize, hie]; omega)
          have hsize' : zs.length ≤ cur.size := by rw [hsize, hie]; omega
          have hH := holds_of_blockI hheap htake
          have hlt : i.g < w.heap.size := hat.lt hvirt
          have C := Any.slices_Sort_int Tryd.lays189 i.g 0 cap zs w hH hlt (by omega)
          rw [hlz]
          simp only [Nat.zero_mul]
          refine C.mono ?_
          rintro e w' ⟨rfl, n, os, rfl⟩
          have hsort := sortZ_eq zs
          rw [hsort]
          obtain ⟨q1, q2, q3, q4, q5⟩ := grownBy_sortedI (w := w) (g := i.g) (n := n) (os := os) (sortZ zs).toArray
          have far : ∀ g', g' < w.heap.size → g' ≠ i.g → (grow (putRow (Value.int .i64) (Sort.ahead w n) i.g 0 (sortZ zs).toArray) os).heap[g']? = w.heap[g']? := fun g' h1 h2 => q5 g' h1 (fun e => h2 (by simpa using e))
          refine ⟨_, m.addBlk b i, k, rfl, EffOut.put i hin (x' := ⟨x.ver, x.e, x.flat, intRows (sortZ zs)⟩) (id := b) ?_ ?_ (Nat.le_refl _) (by simp) ?_ ?_ (fun i0 _ hi0 => .inl (by rw [hi] at hi0; exact Option.some.inj hi0)) ?_ (fun hv => .inr ⟨x, i, hb, hi, hv, rfl⟩) ?_⟩
          · have : b < bl.length := (List.getElem?_eq_some_iff.1 hb).1
            simp [this]
          · intro j hj
            rw [List.getElem?_set_ne (by omega)]
          · intro g' hg' hne
            exact far g' hg' (hne x i hb hi hvirt)
          · refine ⟨q1, q2, q3, q4, fun g' hg' => ?_⟩
            have hB := (hin.own.base b x i hb hi hvirt).1
            exact far g' (by omega) (by omega)
          · have hsl := sortZ_len zs
            have htk := take_putCellsI cur (sortZ zs) (by omega)
            refine ⟨hat.ver, hat.e, ?_, ?_, .inr ⟨hvirt, putCells (Value.int .i64) 0 (sortZ zs).toArray cur, ty, heap_sortedI _ hheap, ?_, hn1, hn2, ?_⟩, hat.ne⟩
            · simp only [intRows, List.length_map]; omega
            · intro r hr
              simp only [intRows, List.mem_map] at hr
              obtain ⟨z, _, rfl⟩ := hr
              simp [e1]
            · rw [← hsize]; simp [putCells]
            · intro r row j p hr hp
              simp only [intRows, List.getElem?_map, Option.map_eq_some_iff] at hr
              obtain ⟨z, hz, rfl⟩ := hr
              obtain ⟨rfl, rfl⟩ : j = 0 ∧ p = .int .i64 z := by
                cases j with
                | zero => simp at hp; exact ⟨rfl, hp.symm⟩
                | succ j => simp at hp
              have hrl : r < (sortZ zs).length := (List.getElem?_eq_some_iff.1 hz).1
              refine ⟨.int .i64 z, ?_, rfl, .int⟩
              have h1 : ((putCells (Value.int .i64) 0 (sortZ zs).toArray cur).toList.take (sortZ zs).length)[r]? = some (.int .i64 z) := by rw [htk]; simp [hz]
              rw [List.getElem?_take_of_lt hrl, Array.getElem?_toList] at h1
              simp only [e1, Nat.mul_one, Nat.add_zero]
              exact h1
          · exact .tup rfl fun i p hp => by simp at hp
        · cases h
      · cases h
    · cases h
  · cases h
end Go.Proofs.YtnodcoemjojlhaaDoor
