/- slices.Sort of ints at this program, as the shelf gives it; as a given function upon the caller's own slice. -/
import Derived.Test.YtkodjmlhmpokoaaGc
import Derived.Test.YtkodjmlhmpokoaaProg
import Derived.Shelf.Sort.Plain
import Derived.Shelf.Slices.In.SortNone
import Derived.Sort.OwnSortedInts
namespace Go.Proofs
open Go.Shelf
def Try.lays189_ren : Go.Shelf.Ren := ⟨fun | 189 => 32 | 125 => 38 | 257 => 42 | 128 => 54 | 129 => 55 | 294 => 57 | 295 => 58 | 296 => 59 | 297 => 60 | 298 => 61 | 299 => 62 | 216 => 63 | 300 => 64 | 301 => 65 | 328 => 72 | 329 => 68 | 330 => 69 | 331 => 73 | 332 => 74 | 215 => 39 | 343 => 84 | n => n, fun | 28 => 24 | 3 => 3 | 46 => 58 | 0 => 0 | 51 => 74 | 53 => 76 | 4 => 4 | 183 => 67 | 182 => 66 | 131 => 71 | 5 => 5 | 9 => 9 | 218 => 84 | 222 => 88 | 228 => 97 | 229 => 98 | n => n, fun | n => n⟩
theorem Try.lays189 : Go.Proofs.Lays.n189 Try.prog Try.lays189_ren := {
  mixed := by kernel_rfl
  f125 := Try.func38.trans (congrArg some (by kernel_rfl))
  f128 := Try.func54.trans (congrArg some (by kernel_rfl))
  f129 := Try.func55.trans (congrArg some (by kernel_rfl))
  f189 := Try.func32.trans (congrArg some (by kernel_rfl))
  f215 := Try.func39.trans (congrArg some (by kernel_rfl))
  f216 := Try.func63.trans (congrArg some (by kernel_rfl))
  f257 := Try.func42.trans (congrArg some (by kernel_rfl))
  f294 := Try.func57.trans (congrArg some (by kernel_rfl))
  f295 := Try.func58.trans (congrArg some (by kernel_rfl))
  f296 := Try.func59.trans (congrArg some (by kernel_rfl))
  f297 := Try.func60.trans (congrArg some (by kernel_rfl))
  f298 := Try.func61.trans (congrArg some (by kernel_rfl))
  f299 := Try.func62.trans (congrArg some (by kernel_rfl))
  f300 := Try.func64.trans (congrArg some (by kernel_rfl))
  f301 := Try.func65.trans (congrArg some (by kernel_rfl))
  f328 := Try.func72.trans (congrArg some (by kernel_rfl))
  f329 := Try.func68.trans (congrArg some (by kernel_rfl))
  f330 := Try.func69.trans (congrArg some (by kernel_rfl))
  f331 := Try.func73.trans (congrArg some (by kernel_rfl))
  f332 := Try.func74.trans (congrArg some (by kernel_rfl))
  f343 := Try.func84.trans (congrArg some (by kernel_rfl))
  t0 := Try.underlying0
  a0 := Try.isAgg0
  z0 := Try.sizeOf0
  v0 := Try.zeroValue0
  t3 := Try.underlying3
  a3 := Try.isAgg3
  z3 := Try.sizeOf3
  v3 := Try.zeroValue3
  t4 := Try.underlying4
  a4 := Try.isAgg4
  z4 := Try.sizeOf4
  v4 := Try.zeroValue4
  t5 := Try.underlying5
  a5 := Try.isAgg5
  z5 := Try.sizeOf5
  v5 := Try.zeroValue5
  t9 := Try.underlying9
  a9 := Try.isAgg9
  z9 := Try.sizeOf9
  v9 := Try.zeroValue9
  t28 := Try.underlying24
  a28 := Try.isAgg24
  z28 := Try.sizeOf24
  v28 := Try.zeroValue24
  t46 := Try.underlying58
  a46 := Try.isAgg58
  z46 := Try.sizeOf58
  v46 := Try.zeroValue58
  t51 := Try.underlying74
  a51 := Try.isAgg74
  z51 := Try.sizeOf74
  v51 := Try.zeroValue74
  t53 := Try.underlying76
  a53 := Try.isAgg76
  z53 := Try.sizeOf76
  v53 := Try.zeroValue76
  t131 := Try.underlying71
  a131 := Try.isAgg71
  z131 := Try.sizeOf71
  v131 := Try.zeroValue71
  t182 := Try.underlying66
  a182 := Try.isAgg66
  z182 := Try.sizeOf66
  v182 := Try.zeroValue66
  t183 := Try.underlying67
  a183 := Try.isAgg67
  z183 := Try.sizeOf67
  v183 := Try.zeroValue67
  t218 := Try.underlying84
  a218 := Try.isAgg84
  z218 := Try.sizeOf84
  v218 := Try.zeroValue84
  t222 := Try.underlying88
  a222 := Try.isAgg88
  z222 := Try.sizeOf88
  v222 := Try.zeroValue88
  t228 := Try.underlying97
  a228 := Try.isAgg97
  z228 := Try.sizeOf97
  v228 := Try.zeroValue97
  t229 := Try.underlying98
  a229 := Try.isAgg98
  z229 := Try.sizeOf98
  v229 := Try.zeroValue98 }
end Go.Proofs
namespace Go.Proofs.Ytkodjmlhmpokoaa
open Go Go.RowKit Go.Sort
set_option linter.unusedVariables false
set_option linter.unusedSectionVars false
set_option linter.unusedSimpArgs false

def intsOf : List (List PV) → Option (List Int)
  | [] => some []
  | [.int .i64 z] :: r => match intsOf r with
    | some l => some (z :: l)
    | none => none
  | _ => none
def insZ (z : Int) : List Int → List Int
  | [] => [z]
  | y :: r => if z ≤ y then z :: y :: r else y :: insZ z r
def sortZ : List Int → List Int
  | [] => []
  | z :: r => insZ z (sortZ r)
theorem insZ_perm (z : Int) : ∀ l, (insZ z l).Perm (z :: l)
  | [] => .refl _
  | y :: r => by
    unfold insZ
    split
    · exact .refl _
    · exact ((insZ_perm z r).cons y).trans (.swap z y r)
theorem sortZ_perm : ∀ l, (sortZ l).Perm l
  | [] => .refl _
  | z :: r => (insZ_perm z (sortZ r)).trans ((sortZ_perm r).cons z)
theorem insZ_sorted (z : Int) : ∀ l : List Int, l.Pairwise (fun a b => decide (a ≤ b) = true) → (insZ z l).Pairwise (fun a b => decide (a ≤ b) = true)
  | [], _ => by simp [insZ]
  | y :: r, h => by
    have h' := List.pairwise_cons.1 h
    unfold insZ
    split
    · rename_i hz
      refine List.pairwise_cons.2 ⟨fun a ha => ?_, h⟩
      rcases List.mem_cons.1 ha with rfl | ha
      · simpa using hz
      · have := h'.1 a ha
        simp at this ⊢; omega
    · rename_i hz
      refine List.pairwise_cons.2 ⟨fun a ha => ?_, insZ_sorted z r h'.2⟩
      have ha' := (insZ_perm z r).mem_iff.1 ha
      rcases List.mem_cons.1 ha' with rfl | ha'
      · simp; omega
      · exact h'.1 a ha'
theorem sortZ_sorted : ∀ l, (sortZ l).Pairwise (fun a b => decide (a ≤ b) = true)
  | [] => .nil
  | z :: r => insZ_sorted z _ (sortZ_sorted r)
theorem sortZ_eq (l : List Int) : (l.mergeSort fun x y => decide (x ≤ y)) = sortZ l := by
  refine List.Perm.eq_of_pairwise (le := fun a b => decide (a ≤ b) = true) (fun a b _ _ h1 h2 => by simp only [decide_eq_true_eq] at h1 h2; omega) ?_ (sortZ_sorted l) ((List.mergeSort_perm l _).trans (sortZ_perm l).symm)
  exact List.pairwise_mergeSort (fun a b c h1 h2 => by simp only [decide_eq_true_eq] at *; omega) (fun a b => by simp; omega) l
def intRows (zs : List Int) : List (List PV) := zs.map fun z => [.int .i64 z]
theorem intsOf_eq : ∀ {rows : List (List PV)} {zs : List Int}, intsOf rows = some zs → rows = intRows zs
  | [], zs, h => by simp [intsOf] at h; subst h; rfl
  | [.int .i64 z] :: r, zs, h => by
    simp only [intsOf] at h
    split at h
    · rename_i l hl
      cases h
      rw [intsOf_eq hl]; rfl
    · cases h
  | [] :: r, zs, h => by simp [intsOf] at h
  | (p :: q :: t) :: r, zs, h => by simp [intsOf] at h
theorem intsOf_rows (zs : List Int) : intsOf (intRows zs) = some zs := by
  induction zs with
  | nil => rfl
  | cons z zs ih => simp only [intRows, List.map_cons, intsOf] at ih ⊢; rw [ih]
/-- slices.Sort upon a slice of the caller's own that is the whole block -/
def xSort : List PV → Blks → Option (PV × Blks)
  | [.own b ver lo len], bl => match getB bl b ver with
    | some x => if len = 0 ∧ x.e = 1 then some (.tup [], bl) else if x.e = 1 ∧ lo = 0 ∧ len = x.rows.length ∧ 0 < len ∧ len < 1000000 then match intsOf x.rows with
        | some zs => some (.tup [], bl.set b (some ⟨x.ver, x.e, x.flat, intRows (sortZ zs)⟩))
        | none => none
      else none
    | none => none
  | [.nilS], bl => some (.tup [], bl)
  | _, _ => none
theorem one_argk {m : Mem} {k : Nat} {p : PV} {vs : Array Value} (hl : [p].length = vs.size) (hr : ∀ (i : Nat) (q : PV), [p][i]? = some q → Rep m k q (vs.getD i undef)) : ∃ v, vs = #[v] ∧ Rep m k p v := by
  have h0 := hr 0 _ rfl
  obtain ⟨l⟩ := vs
  cases l with
  | nil => simp at hl
  | cons v l =>
    cases l with
    | cons a l => simp at hl
    | nil => exact ⟨v, rfl, h0⟩
theorem sortZ_len (zs : List Int) : (sortZ zs).length = zs.length := (sortZ_perm zs).length_eq
theorem rows_take {m : Mem} {k : Nat} {zs : List Int} {cur : Array Value} (h : RowsIn m k 1 (intRows zs) cur) (hs : zs.length ≤ cur.size) : cur.toList.take zs.length = zs.map (Value.int .i64) := by
  apply List.ext_getElem?
  intro j
  by_cases hj : j < zs.length
  · obtain ⟨v, h1, _, h3⟩ := h j [.int .i64 zs[j]] 0 (.int .i64 zs[j]) (by simp [intRows, hj]) rfl
    have : v = .int .i64 zs[j] := by cases h3; rfl
    subst this
    rw [List.getElem?_take_of_lt hj, Array.getElem?_toList]
    simp only [Nat.mul_one, Nat.add_zero] at h1
    rw [h1]
    simp [hj]
  · rw [List.getElem?_take_eq_none (by omega), List.getElem?_eq_none (by simp; omega)]
variable [Bs]
theorem ext32 : ExtSOk Try.prog 32 xSort := by
  intro args bl p bl' h
  unfold xSort at h
  split at h
  · rename_i b ver lo len
    split at h
    · rename_i x hx
      split at h
      · rename_i hc
        obtain ⟨rfl, e1⟩ := hc
        cases h
        have hblx : bl[b]? = some (some x) ∧ x.ver = ver := by
          unfold getB at hx
          split at hx
          · rename_i y hy
            split at hx
            · rename_i hh; cases hx; exact ⟨hy, hh.1⟩
            · cases hx
          · cases hx
        obtain ⟨hb, hver⟩ := hblx
        refine ⟨⟨Try.f32, Try.func32, rfl, by decide⟩, fun B k m w vs hl hr hin => ?_⟩
        obtain ⟨v, rfl, h1⟩ := one_argk hl hr
        obtain ⟨i, hbk, hi, hvi, _, ho⟩ := own_inv h1
        have hat := At.blk (hin.own.at_ b x i hb hi) (by rw [e1]; decide)
        have hv := ho (by rw [hat.ver, hver])
        have hvs : ∃ q c, v = .slice q 0 c := by
          rcases hv with ⟨_, _, ad, rfl⟩ | ⟨_, cap, rfl, _⟩
          · exact ⟨ad, 0, rfl⟩
          · exact ⟨_, _, rfl⟩
        obtain ⟨q, c, rfl⟩ := hvs
        refine (Any.slices_Sort_int_none Try.lays189 q c w).mono ?_
        rintro e w' ⟨rfl, rfl⟩
        exact ⟨_, m, k, rfl, ⟨.tup rfl fun i p hp => by simp at hp, MLe.refl _ _, Nat.le_refl _, hin.frz, hin.own, Below.refl _ _, fun _ _ _ h => .inl h, Nat.le_refl _, hin.fresh⟩⟩
      split at h
      · rename_i hc
        obtain ⟨e1, rfl, hlen, hpos, hmax⟩ := hc
        split at h
        · rename_i zs hzs
          cases h
          have hrows := intsOf_eq hzs
          have hblx : bl[b]? = some (some x) ∧ x.ver = ver := by
            unfold getB at hx
            split at hx
            · rename_i y hy
              split at hx
              · rename_i hh; cases hx; exact ⟨hy, hh.1⟩
              · cases hx
            · cases hx
          obtain ⟨hb, hver⟩ := hblx
          have hlz : len = zs.length := by rw [hlen, hrows]; simp [intRows]
          refine ⟨⟨Try.f32, Try.func32, rfl, by decide⟩, fun B k m w vs hl hr hin => ?_⟩
          obtain ⟨v, rfl, h1⟩ := one_argk hl hr
          obtain ⟨i, hbk, hi, hvi, _, ho⟩ := own_inv h1
          have hat := At.blk (hin.own.at_ b x i hb hi) (by rw [e1]; decide)
          have hv := ho (by rw [hat.ver, hver])
          rcases hv with ⟨h0, _⟩ | ⟨hvirt, cap, rfl, hcap1, hcap2, hcap3⟩
          · omega
          rcases hat.mem with ⟨hv, _⟩ | ⟨_, cur, ty, hheap, hsize, hn1, hn2, hri⟩
          · rw [hvirt] at hv; cases hv
          have hie : i.e = 1 := by rw [hat.e, e1]
          have hin' : i.n = zs.length := by rw [hat.n, hrows]; simp [intRows]
          rw [e1, hrows] at hri
          have htake := rows_take hri (by rw [hsize, hie]; omega)
          have hsize' : zs.length ≤ cur.size := by rw [hsize, hie]; omega
          have hH := holds_of_blockI hheap htake
          have hlt : i.g < w.heap.size := hat.lt hvirt
          have C := Any.slices_Sort_int Try.lays189 i.g 0 cap zs w hH hlt (by omega)
          rw [hlz]
          simp only [Nat.zero_mul]
          refine C.mono ?_
          rintro e w' ⟨rfl, n, os, rfl⟩
          have hsort := sortZ_eq zs
          rw [hsort]
          obtain ⟨q1, q2, q3, q4, q5⟩ := grownBy_sortedI (w := w) (g := i.g) (n := n) (os := os) (sortZ zs).toArray
          have far : ∀ g', g' < w.heap.size → g' ≠ i.g → (grow (putRow (Value.int .i64) (Sort.ahead w n) i.g 0 (sortZ zs).toArray) os).heap[g']? = w.heap[g']? := fun g' h1 h2 => q5 g' h1 (fun e => h2 (by simpa using e))
          refine ⟨_, m.addBlk b i, k, rfl, EffOut.put i hin (x' := ⟨x.ver, x.e, x.flat, intRows (sortZ zs)⟩) (id := b) ?_ ?_ (Nat.le_refl _) (by simp) ?_ ?_ (fun i0 _ hi0 => .inl (by rw [hi] at hi0; exact Option.some.inj hi0)) ?_ (fun hv => .inr ⟨x, i, hb, hi, hv, rfl⟩) ?_⟩
          · have : b < bl.length := (List.getElem?_eq_some_iff.1 hb).1
            simp [this]
          · intro j hj
            rw [List.getElem?_set_ne (by omega)]
          · intro g' hg' hne
            exact far g' hg' (hne x i hb hi hvirt)
          · refine ⟨q1, q2, q3, q4, fun g' hg' => ?_⟩
            have hB := (hin.own.base b x i hb hi hvirt).1
            exact far g' (by omega) (by omega)
          · have hsl := sortZ_len zs
            have htk := take_putCellsI cur (sortZ zs) (by omega)
            refine ⟨hat.ver, hat.e, ?_, ?_, .inr ⟨hvirt, putCells (Value.int .i64) 0 (sortZ zs).toArray cur, ty, heap_sortedI _ hheap, ?_, hn1, hn2, ?_⟩, hat.ne⟩
            · simp only [intRows, List.length_map]; omega
            · intro r hr
              simp only [intRows, List.mem_map] at hr
              obtain ⟨z, _, rfl⟩ := hr
              simp [e1]
            · rw [← hsize]; simp [putCells]
            · intro r row j p hr hp
              simp only [intRows, List.getElem?_map, Option.map_eq_some_iff] at hr
              obtain ⟨z, hz, rfl⟩ := hr
              obtain ⟨rfl, rfl⟩ : j = 0 ∧ p = .int .i64 z := by
                cases j with
                | zero => simp at hp; exact ⟨rfl, hp.symm⟩
                | succ j => simp at hp
              have hrl : r < (sortZ zs).length := (List.getElem?_eq_some_iff.1 hz).1
              refine ⟨.int .i64 z, ?_, rfl, .int⟩
              have h1 : ((putCells (Value.int .i64) 0 (sortZ zs).toArray cur).toList.take (sortZ zs).length)[r]? = some (.int .i64 z) := by rw [htk]; simp [hz]
              rw [List.getElem?_take_of_lt hrl, Array.getElem?_toList] at h1
              simp only [e1, Nat.mul_one, Nat.add_zero]
              exact h1
          · exact .tup rfl fun i p hp => by simp at hp
        · cases h
      · cases h
    · cases h
  · cases h
    refine ⟨⟨Try.f32, Try.func32, rfl, by decide⟩, fun B k m w vs hl hr hin => ?_⟩
    obtain ⟨v, rfl, h1⟩ := one_argk hl hr
    obtain ⟨ad, rfl⟩ := nilS_inv h1
    refine (Any.slices_Sort_int_none Try.lays189 ad 0 w).mono ?_
    rintro e w' ⟨rfl, rfl⟩
    exact ⟨_, m, k, rfl, ⟨.tup rfl fun i p hp => by simp at hp, MLe.refl _ _, Nat.le_refl _, hin.frz, hin.own, Below.refl _ _, fun _ _ _ h => .inl h, Nat.le_refl _, hin.fresh⟩⟩
  · cases h
end Go.Proofs.Ytkodjmlhmpokoaa
