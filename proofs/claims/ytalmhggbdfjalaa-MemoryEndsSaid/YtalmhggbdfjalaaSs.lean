/- slices.SortFunc of spans at this program, as the shelf gives it; as a given function upon the caller's own slice. -/
import Derived.Test.YtalmhggbdfjalaaGc
import Derived.Test.YtalmhggbdfjalaaProg
import Derived.Shelf.SlSortCmp.NoneTotal
import Derived.Shelf.SlicesG.Cmp
namespace Go.Proofs
open Go.Shelf
def Try.sortSp_ren : Go.Shelf.Ren := ⟨fun | 6 => 40 | 15 => 50 | 14 => 49 | 28 => 63 | 29 => 64 | 20 => 55 | 21 => 56 | 22 => 57 | 23 => 58 | 24 => 59 | 25 => 60 | 26 => 61 | 27 => 62 | 46 => 66 | 47 => 67 | 48 => 68 | 49 => 69 | 50 => 70 | 57 => 72 | n => n, fun | 22 => 68 | 24 => 70 | 25 => 72 | 3 => 3 | 39 => 81 | 0 => 0 | 53 => 93 | 55 => 95 | 4 => 4 | 46 => 87 | 45 => 86 | 50 => 58 | 5 => 5 | 9 => 9 | 66 => 96 | 70 => 100 | 76 => 102 | 77 => 33 | n => n, fun | n => n⟩
theorem Try.sortSp : Go.Proofs.SlLaysF0.n6 Try.prog Try.sortSp_ren := {
  mixed := by kernel_rfl
  f6 := ⟨Try.f40.name, by decide, Try.func40.trans (congrArg some (by kernel_rfl))⟩
  f14 := ⟨Try.f49.name, by decide, Try.func49.trans (congrArg some (by kernel_rfl))⟩
  f15 := Try.func50.trans (congrArg some (by kernel_rfl))
  f20 := ⟨Try.f55.name, by decide, Try.func55.trans (congrArg some (by kernel_rfl))⟩
  f21 := ⟨Try.f56.name, by decide, Try.func56.trans (congrArg some (by kernel_rfl))⟩
  f22 := ⟨Try.f57.name, by decide, Try.func57.trans (congrArg some (by kernel_rfl))⟩
  f23 := ⟨Try.f58.name, by decide, Try.func58.trans (congrArg some (by kernel_rfl))⟩
  f24 := ⟨Try.f59.name, by decide, Try.func59.trans (congrArg some (by kernel_rfl))⟩
  f25 := ⟨Try.f60.name, by decide, Try.func60.trans (congrArg some (by kernel_rfl))⟩
  f26 := ⟨Try.f61.name, by decide, Try.func61.trans (congrArg some (by kernel_rfl))⟩
  f27 := ⟨Try.f62.name, by decide, Try.func62.trans (congrArg some (by kernel_rfl))⟩
  f28 := Try.func63.trans (congrArg some (by kernel_rfl))
  f29 := Try.func64.trans (congrArg some (by kernel_rfl))
  f46 := ⟨Try.f66.name, by decide, Try.func66.trans (congrArg some (by kernel_rfl))⟩
  f47 := Try.func67.trans (congrArg some (by kernel_rfl))
  f48 := Try.func68.trans (congrArg some (by kernel_rfl))
  f49 := ⟨Try.f69.name, by decide, Try.func69.trans (congrArg some (by kernel_rfl))⟩
  f50 := ⟨Try.f70.name, by decide, Try.func70.trans (congrArg some (by kernel_rfl))⟩
  f57 := ⟨Try.f72.name, by decide, Try.func72.trans (congrArg some (by kernel_rfl))⟩
  t0 := Try.underlying0
  a0 := Try.isAgg0
  z0 := Try.sizeOf0
  v0 := Try.zeroValue0
  t3 := Try.underlying3
  a3 := Try.isAgg3
  z3 := Try.sizeOf3
  v3 := Try.zeroValue3
  t4 := Try.underlying4
  a4 := Try.isAgg4
  z4 := Try.sizeOf4
  v4 := Try.zeroValue4
  t5 := Try.underlying5
  a5 := Try.isAgg5
  z5 := Try.sizeOf5
  v5 := Try.zeroValue5
  t9 := Try.underlying9
  a9 := Try.isAgg9
  z9 := Try.sizeOf9
  v9 := Try.zeroValue9
  t22 := Try.underlying68
  a22 := Try.isAgg68
  z22 := Try.sizeOf68
  v22 := Try.zeroValue68
  t25 := Try.underlying72
  a25 := Try.isAgg72
  z25 := Try.sizeOf72
  v25 := Try.zeroValue72
  t39 := Try.underlying81
  a39 := Try.isAgg81
  z39 := Try.sizeOf81
  v39 := Try.zeroValue81
  t45 := Try.underlying86
  a45 := Try.isAgg86
  z45 := Try.sizeOf86
  v45 := Try.zeroValue86
  t46 := Try.underlying87
  a46 := Try.isAgg87
  z46 := Try.sizeOf87
  v46 := Try.zeroValue87
  t50 := Try.underlying58
  a50 := Try.isAgg58
  z50 := Try.sizeOf58
  v50 := Try.zeroValue58
  t53 := Try.underlying93
  a53 := Try.isAgg93
  z53 := Try.sizeOf93
  v53 := Try.zeroValue93
  t55 := Try.underlying95
  a55 := Try.isAgg95
  z55 := Try.sizeOf95
  v55 := Try.zeroValue95
  t66 := Try.underlying96
  a66 := Try.isAgg96
  z66 := Try.sizeOf96
  v66 := Try.zeroValue96
  t70 := Try.underlying100
  a70 := Try.isAgg100
  z70 := Try.sizeOf100
  v70 := Try.zeroValue100
  t76 := Try.underlying102
  a76 := Try.isAgg102
  z76 := Try.sizeOf102
  v76 := Try.zeroValue102
  t77 := Try.underlying33
  a77 := Try.isAgg33
  z77 := Try.sizeOf33
  v77 := Try.zeroValue33 }
def Try.cmpInt_ren : Go.Shelf.Ren := ⟨fun | 5 => 34 | 7 => 46 | n => n, fun | 22 => 3 | 3 => 3 | 4 => 4 | n => n, fun | n => n⟩
theorem Try.cmpInt : Go.Proofs.SlLaysC2.n5 Try.prog Try.cmpInt_ren := {
  mixed := by kernel_rfl
  f5 := ⟨Try.f34.name, by decide, Try.func34.trans (congrArg some (by kernel_rfl))⟩
  f7 := ⟨Try.f46.name, by decide, Try.func46.trans (congrArg some (by kernel_rfl))⟩
  t3 := Try.underlying3
  a3 := Try.isAgg3
  z3 := Try.sizeOf3
  v3 := Try.zeroValue3
  t4 := Try.underlying4
  a4 := Try.isAgg4
  z4 := Try.sizeOf4
  v4 := Try.zeroValue4
  t22 := Try.underlying3
  a22 := Try.isAgg3
  z22 := Try.sizeOf3
  v22 := Try.zeroValue3 }
end Go.Proofs
namespace Go.Proofs
open Go.Shelf Go.RowKit Go.Lib Go.Sort
/-- a span's two cells -/
def Try.encSp (x : Int × Int) : List Value := [.int .i64 x.1, .int .i64 x.2]
abbrev Try.cfSp : Int × Int → Int × Int → Int := fun x y => Lib.compareInt x.1 y.1
theorem Try.ltSp (x y : Int × Int) : ltOf Try.cfSp x y = decide (x.1 < y.1) := by
  unfold ltOf Try.cfSp Lib.compareInt
  by_cases h1 : x.1 < y.1
  · simp [h1]
  · by_cases h2 : y.1 < x.1 <;> simp [h1, h2]
theorem Try.swoSp : SWO (ltOf Try.cfSp) where
  irrefl x := by rw [Try.ltSp]; simp
  trans x y z h1 h2 := by rw [Try.ltSp] at *; simp at *; omega
  ntrans x y z h1 h2 := by rw [Try.ltSp] at *; simp at *; omega
set_option maxHeartbeats 1000000 in
/-- the closure: two blocks are laid -/
theorem Try.closure41 (x y : Int × Int) (W : World) : Calls Try.prog 41 #[.agg #[.int .i64 x.1, .int .i64 x.2], .agg #[.int .i64 y.1, .int .i64 y.2]] W fun e w' => e = .returned (.int .i64 (Lib.compareInt x.1 y.1)) ∧ ∃ q os', w' = grow (W.drewN q) os' := by
  have hcon := fun W' => AnyG.cmp_Compare_int Try.cmpInt x.1 y.1 W'
  change ∀ W', Calls Try.prog 34 _ _ _ at hcon
  generalize Lib.compareInt x.1 y.1 = r at hcon ⊢
  go_enter Try.func41, Try.ntmps41
  go_wp2_with (go_at_call 34; refine (hcon _).mono ?_; rintro e w' ⟨rfl, rfl⟩)
  go_ret
  exact ⟨rfl, 0, _, by rw [alloc_eq_grow, alloc_eq_grow, grow_grow]; rfl⟩
theorem Try.cmpLays41 (blk off size : Nat) (w : World) : CmpLays Try.prog 41 #[] Try.encSp 2 Try.cfSp blk off size w :=
  fun _ _ _ _ x y => Try.closure41 x y _
theorem Try.sortNone (p : Option Addr) (cap : Nat) (fv : Value) (w : World) : Calls Try.prog 40 #[.slice p 0 cap, fv] w fun e w' => e = .returned (.tuple #[]) ∧ w' = w :=
  AnyF.slices_SortFunc_none Try.sortSp p cap fv w
theorem Try.heap_put {w : World} {g n : Nat} {os : Array Obj} {cur : Array Value} {e : TypeId} {fr : Nat × Nat} (F : Array Value) (hb : w.heap[g]? = some (.cells cur e fr)) :
    (grow (putRow id (Sort.ahead w n) g 0 F) os).heap[g]? = some (.cells (putCells id 0 F cur) e fr) := by
  have hg : g < w.heap.size := (Array.getElem?_eq_some_iff.1 hb).1
  rw [heap_grow_old _ _ (by simpa using hg)]
  simp [putRow, mapBlock, Sort.ahead, Array.getElem?_modify, hb, onCells]
theorem Try.far_put {w : World} {g n : Nat} {os : Array Obj} (F : Array Value) : w.grownBy (grow (putRow id (Sort.ahead w n) g 0 F) os) (some g) := by
  refine ⟨rfl, rfl, rfl, by simp, fun k hk hne => ?_⟩
  rw [heap_grow_old _ _ (by simpa using hk)]
  have : g ≠ k := fun e => hne (by rw [e])
  simp [putRow, mapBlock, Sort.ahead, Array.getElem?_modify, this]
/-- the order that the library gives -/
def Try.srt (l : List (Int × Int)) : List (Int × Int) := (pdq (ltOf Try.cfSp) l.toArray 0 l.toArray.size (Lib.bitLen l.toArray.size) true true).toList
theorem Try.srt_all (l : List (Int × Int)) : PermIn 0 l.toArray.size l.toArray (Try.srt l).toArray ∧ SortedIn (ltOf Try.cfSp) 0 l.toArray.size (Try.srt l).toArray := by
  have h := pdq_sorts (ltOf Try.cfSp) Try.swoSp l.toArray 0 l.toArray.size (Lib.bitLen l.toArray.size) true true (Nat.zero_le _) (Nat.le_refl _) (Or.inl rfl)
  exact ⟨h.1, h.2⟩
end Go.Proofs
namespace Go.Proofs.Ytalmhggbdfjalaa
open Go Go.RowKit Go.Sort
set_option linter.unusedVariables false
set_option linter.unusedSectionVars false
set_option linter.unusedSimpArgs false

abbrev Sp := Int × Int
def spOf : List (List PV) → Option (List Sp)
  | [] => some []
  | [.int .i64 a, .int .i64 b] :: r => match spOf r with
    | some l => some ((a, b) :: l)
    | none => none
  | _ => none
def spRows (l : List Sp) : List (List PV) := l.map fun s => [.int .i64 s.1, .int .i64 s.2]
theorem spOf_eq : ∀ {rows : List (List PV)} {l : List Sp}, spOf rows = some l → rows = spRows l
  | [], l, h => by simp [spOf] at h; subst h; rfl
  | [.int .i64 a, .int .i64 b] :: r, l, h => by
    simp only [spOf] at h
    split at h
    · rename_i q hq
      cases h
      rw [spOf_eq hq]; rfl
    · cases h
  | [] :: r, l, h => by simp [spOf] at h
  | [p] :: r, l, h => by simp [spOf] at h
  | (p :: q :: t :: u) :: r, l, h => by simp [spOf] at h
theorem spOf_rows (l : List Sp) : spOf (spRows l) = some l := by
  induction l with
  | nil => rfl
  | cons z l ih => simp only [spRows, List.map_cons, spOf] at ih ⊢; rw [ih]
/-- slices.SortFunc upon a slice of the caller's own that is the whole block -/
def xSortF : List PV → Blks → Option (PV × Blks)
  | [.own b ver lo len, .fn 41 []], bl => match getB bl b ver with
    | some x => if x.e = 2 ∧ lo = 0 ∧ len = x.rows.length ∧ len < 1000000 then match spOf x.rows with
        | some l => some (.tup [], bl.set b (some ⟨x.ver, x.e, x.flat, spRows (Try.srt l)⟩))
        | none => none
      else none
    | none => none
  | _, _ => none
theorem two_argk {m : Mem} {k : Nat} {p q : PV} {vs : Array Value} (hl : [p, q].length = vs.size) (hr : ∀ (i : Nat) (x : PV), [p, q][i]? = some x → Rep m k x (vs.getD i undef)) : ∃ v u, vs = #[v, u] ∧ Rep m k p v ∧ Rep m k q u := by
  have h0 := hr 0 _ rfl
  have h1 := hr 1 _ rfl
  obtain ⟨l⟩ := vs
  rcases l with _ | ⟨v, _ | ⟨u, _ | ⟨a, l⟩⟩⟩ <;> simp at hl
  exact ⟨v, u, rfl, h0, h1⟩
theorem fn0_inv {m : Mem} {k f : Nat} {v : Value} (h : Rep m k (.fn f []) v) : v = .func (.func f) #[] #[] := by
  cases h with
  | fn h1 h2 =>
    have : ‹Array Value› = #[] := Array.eq_empty_of_size_eq_zero (by simpa using h1.symm)
    rw [this]
variable [Bs]
theorem ext40 : ExtSOk Try.prog 40 xSortF := by
  intro args bl p bl' h
  unfold xSortF at h
  split at h
  · rename_i b ver lo len
    split at h
    · rename_i x hx
      split at h
      · rename_i hc
        obtain ⟨e1, rfl, hlen, hmax⟩ := hc
        split at h
        · rename_i l hl0
          cases h
          have hrows := spOf_eq hl0
          have hblx : bl[b]? = some (some x) ∧ x.ver = ver := by
            unfold getB at hx
            split at hx
            · rename_i y hy
              split at hx
              · rename_i hh; cases hx; exact ⟨hy, hh.1⟩
              · cases hx
            · cases hx
          obtain ⟨hb, hver⟩ := hblx
          have hlz : len = l.length := by rw [hlen, hrows]; simp [spRows]
          obtain ⟨sp1, sp2⟩ := Try.srt_all l
          have hsl : (Try.srt l).length = l.length := by have := sp1.1; simpa using this
          refine ⟨⟨Try.f40, Try.func40, rfl, by decide⟩, fun B k m w vs hl hr hin => ?_⟩
          obtain ⟨v, u, rfl, h1, h2⟩ := two_argk hl hr
          have hfn := fn0_inv h2
          subst hfn
          obtain ⟨i, hbk, hi, hvi, _, ho⟩ := own_inv h1
          have hat := At.blk (hin.own.at_ b x i hb hi) (by rw [e1]; decide)
          have hv := ho (by rw [hat.ver, hver])
          have hie : i.e = 2 := by rw [hat.e, e1]
          have hbl : b < bl.length := (List.getElem?_eq_some_iff.1 hb).1
          rcases hv with ⟨h0, _, ad, rfl⟩ | ⟨hvirt, cap, rfl, hcap1, hcap2, hcap3⟩
          · have hl00 : l = [] := List.length_eq_zero_iff.1 (by omega)
            subst hl00
            have hs0 : Try.srt [] = [] := List.length_eq_zero_iff.1 hsl
            have hx' : (⟨x.ver, x.e, x.flat, spRows (Try.srt [])⟩ : Blk) = x := by rw [hs0]; cases x; simp at hrows; subst hrows; rfl
            rw [hx']
            have C := Try.sortNone ad 0 (.func (.func 41) #[] #[]) w
            refine C.mono ?_
            rintro e w' ⟨rfl, rfl⟩
            refine ⟨_, m.addBlk b i, k, rfl, EffOut.put i hin (x' := x) (id := b) (by simp [hbl]) (fun j hj => by rw [List.getElem?_set_ne (by omega)]) (Nat.le_refl _) (by simp) (fun _ _ _ => rfl) (Below.refl _ _) (fun i0 _ hi0 => .inl (by rw [hi] at hi0; exact Option.some.inj hi0)) ?_ (fun hv => .inr ⟨x, i, hb, hi, hv, rfl⟩) (.tup rfl fun i p hp => by simp at hp)⟩
            have : m.addBlk b i = m := by
              unfold Mem.addBlk
              congr 1
              funext j
              split
              · rename_i hj; rw [hj, hi]
              · rfl
            rw [this]
            exact hat
          rcases hat.mem with ⟨hv, _⟩ | ⟨_, cur, ty, hheap, hsize, hn1, hn2, hri⟩
          · rw [hvirt] at hv; cases hv
          have hin' : i.n = l.length := by rw [hat.n, hrows]; simp [spRows]
          rw [e1, hrows] at hri
          have hcs : l.length * 2 ≤ cur.size := by rw [hsize, hie]; exact Nat.mul_le_mul_right _ (by omega)
          have cell : ∀ r (s : Sp), l[r]? = some s → cur[r * 2]? = some (.int .i64 s.1) ∧ cur[r * 2 + 1]? = some (.int .i64 s.2) := by
            intro r s hs
            have hrow : (spRows l)[r]? = some [.int .i64 s.1, .int .i64 s.2] := by simp [spRows, hs]
            obtain ⟨v0, a1, _, a3⟩ := hri r _ 0 _ hrow rfl
            obtain ⟨v1, b1, _, b3⟩ := hri r _ 1 _ hrow rfl
            have := int_inv a3
            have := int_inv b3
            subst_vars
            exact ⟨a1, b1⟩
          have hH : HoldsK Try.encSp 2 w i.g 0 l.toArray := by
            intro j hj
            rw [size_flatK] at hj
            simp only [List.size_toArray] at hj
            refine ⟨?_, by simp [World.frozen?, hheap]⟩
            rw [get_flatK _ _ _ _ (by simpa using hj)]
            have hjr : j / 2 < l.length := by omega
            obtain ⟨s, hs⟩ : ∃ s, l[j / 2]? = some s := ⟨_, List.getElem?_eq_getElem hjr⟩
            obtain ⟨c0, c1⟩ := cell (j / 2) s hs
            have hd : l.toArray[j / 2]! = s := by rw [getElem!_pos _ _ (by simpa using hjr)]; simp [(List.getElem?_eq_some_iff.1 hs).2]
            simp only [World.cell?, hheap, Nat.zero_add, hd, Try.encSp, id]
            simp only [Option.isSome_none, Bool.false_eq_true, if_false]
            rcases Nat.mod_two_eq_zero_or_one j with hm | hm
            · rw [hm]
              have ej : j = j / 2 * 2 := by omega
              rw [← ej] at c0
              rw [c0]
              simp
            · rw [hm]
              have ej : j = j / 2 * 2 + 1 := by omega
              rw [← ej] at c1
              rw [c1]
              simp
          have hlt : i.g < w.heap.size := hat.lt hvirt
          have eg : ∀ args w, (callFunc 41 args).run Try.prog w = .ok (.enter 41 args) w := enters_of Try.func41 (by kernel_rfl) rfl
          have C := AnyQ.slices_SortFunc_eq Try.sortSp 2 Try.isAgg70 Try.sizeOf70 Try.encSp (fun _ => rfl) (fun x v hv => by simp [Try.encSp] at hv; rcases hv with rfl | rfl <;> rfl) Try.cfSp Try.swoSp 41 #[] i.g 0 cap l.toArray w eg (Try.cmpLays41 i.g 0 _ w) hH hlt (by simp; omega)
          change Calls Try.prog 40 _ _ _ at C
          rw [hlz]
          simp only [Nat.zero_mul]
          have hsz : l.toArray.size = l.length := by simp
          rw [hsz] at C
          refine C.mono ?_
          rintro e w' ⟨rfl, n, os, rfl⟩
          have hpd : pdq (ltOf Try.cfSp) l.toArray 0 l.length (Lib.bitLen l.length) true true = (Try.srt l).toArray := by simp [Try.srt]
          rw [hpd]
          unfold sortWorldK putRowK
          obtain ⟨q1, q2, q3, q4, q5⟩ := Try.far_put (w := w) (g := i.g) (n := n) (os := os) (flatK Try.encSp 2 (Try.srt l).toArray)
          have far : ∀ g', g' < w.heap.size → g' ≠ i.g → (grow (putRow id (Sort.ahead w n) i.g 0 (flatK Try.encSp 2 (Try.srt l).toArray)) os).heap[g']? = w.heap[g']? := fun g' h1 h2 => q5 g' h1 (fun e => h2 (by simpa using e))
          refine ⟨_, m.addBlk b i, k, rfl, EffOut.put i hin (x' := ⟨x.ver, x.e, x.flat, spRows (Try.srt l)⟩) (id := b) ?_ ?_ (Nat.le_refl _) (by simp) ?_ ?_ (fun i0 _ hi0 => .inl (by rw [hi] at hi0; exact Option.some.inj hi0)) ?_ (fun hv => .inr ⟨x, i, hb, hi, hv, rfl⟩) ?_⟩
          · simp [hbl]
          · intro j hj
            rw [List.getElem?_set_ne (by omega)]
          · intro g' hg' hne
            exact far g' hg' (hne x i hb hi hvirt)
          · refine ⟨q1, q2, q3, q4, fun g' hg' => ?_⟩
            have hB := (hin.own.base b x i hb hi hvirt).1
            exact far g' (by omega) (by omega)
          · refine ⟨hat.ver, hat.e, ?_, ?_, .inr ⟨hvirt, putCells id 0 (flatK Try.encSp 2 (Try.srt l).toArray) cur, ty, Try.heap_put _ hheap, ?_, hn1, hn2, ?_⟩, hat.ne⟩
            · simp only [spRows, List.length_map]; omega
            · intro r hr
              simp only [spRows, List.mem_map] at hr
              obtain ⟨z, _, rfl⟩ := hr
              simp [e1]
            · rw [← hsize]; simp [putCells]
            · intro r row j p hr hp
              simp only [spRows, List.getElem?_map, Option.map_eq_some_iff] at hr
              obtain ⟨z, hz, rfl⟩ := hr
              have hrl : r < (Try.srt l).length := (List.getElem?_eq_some_iff.1 hz).1
              have hj2 : j < 2 := by have := (List.getElem?_eq_some_iff.1 hp).1; simpa using this
              have hcur : r * 2 + j < cur.size := by omega
              simp only [e1]
              have hq : (putCells id 0 (flatK Try.encSp 2 (Try.srt l).toArray) cur)[r * 2 + j]? = some (Try.encSp z)[j]! := by
                unfold putCells
                rw [Array.getElem?_mapIdx, Array.getElem?_eq_getElem hcur]
                simp only [Option.map_some, Nat.zero_le, true_and, Nat.zero_add, size_flatK, List.size_toArray, Nat.sub_zero, id]
                rw [if_pos (by omega), get_flatK _ _ _ _ (by simp; omega)]
                have e5 : (r * 2 + j) / 2 = r := by omega
                have e6 : (r * 2 + j) % 2 = j := by omega
                have e7 : (Try.srt l).toArray[r]! = z := by
                  rw [getElem!_pos _ _ (by simpa using hrl)]
                  simp [(List.getElem?_eq_some_iff.1 hz).2]
                rw [e5, e6, e7]
              rcases Nat.lt_or_ge j 1 with h1 | h1
              · obtain rfl : j = 0 := by omega
                simp at hp
                subst hp
                exact ⟨_, hq, rfl, .int⟩
              · obtain rfl : j = 1 := by omega
                simp at hp
                subst hp
                exact ⟨_, hq, rfl, .int⟩
          · exact .tup rfl fun i p hp => by simp at hp
        · cases h
      · cases h
    · cases h
  · cases h
end Go.Proofs.Ytalmhggbdfjalaa
