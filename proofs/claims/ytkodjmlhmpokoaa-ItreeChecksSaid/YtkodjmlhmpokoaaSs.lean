/- slices.SortFunc of indices: the given function keeps its word. -/
import Derived.Test.YtkodjmlhmpokoaaSsA
namespace Go.Proofs.Ytkodjmlhmpokoaa
open Go Go.RowKit Go.Sort Go.Lib
set_option linter.unusedVariables false
set_option linter.unusedSectionVars false
set_option linter.unusedSimpArgs false

def boxOf : List (List PV) → Option (List (List PV))
  | [[.sl _ 2 rows]] => some rows
  | [[.nilS]] => some []
  | _ => none
theorem boxOf_sl {y rows : List (List PV)} (h : boxOf y = some rows) (hn : rows ≠ []) : ∃ ex, y = [[.sl ex 2 rows]] := by
  unfold boxOf at h
  split at h
  · cases h; exact ⟨_, rfl⟩
  · cases h; exact absurd rfl hn
  · cases h
/-- slices.SortFunc upon a slice of the caller's own that is the whole block; the closure holds the list's variable -/
def xSortI : List PV → Blks → Option (PV × Blks)
  | [.own b ver lo len, .fn 24 [.ptr bb bv 0 0]], bl => match getB bl b ver with
    | some x => match getB bl bb bv with
      | some y => if x.e = 1 ∧ lo = 0 ∧ len = x.rows.length ∧ len < 1000000 ∧ b ≠ bb ∧ y.e = 1 then match boxOf y.rows with
          | some rows => match spOf rows with
            | some l => match finOf l.length x.rows with
              | some d => some (.tup [], bl.set b (some ⟨x.ver, x.e, x.flat, finRows (srtI l d)⟩))
              | none => none
            | none => none
          | none => none
        else none
      | none => none
    | none => none
  | _, _ => none
variable [Bs]
theorem getB_inv {bl : Blks} {b ver : Nat} {x : Blk} (h : getB bl b ver = some x) : bl[b]? = some (some x) ∧ x.ver = ver := by
  unfold getB at h
  split at h
  · rename_i y hy
    split at h
    · rename_i hh; cases h; exact ⟨hy, hh.1⟩
    · cases h
  · cases h
theorem two_argk {m : Mem} {k : Nat} {p q : PV} {vs : Array Value} (hl : [p, q].length = vs.size) (hr : ∀ (i : Nat) (x : PV), [p, q][i]? = some x → Rep m k x (vs.getD i undef)) : ∃ v u, vs = #[v, u] ∧ Rep m k p v ∧ Rep m k q u := by
  have h0 := hr 0 _ rfl
  have h1 := hr 1 _ rfl
  obtain ⟨l⟩ := vs
  rcases l with _ | ⟨v, _ | ⟨u, _ | ⟨a, l⟩⟩⟩ <;> simp at hl
  exact ⟨v, u, rfl, h0, h1⟩
theorem fn1_inv {m : Mem} {k f : Nat} {p : PV} {v : Value} (h : Rep m k (.fn f [p]) v) : ∃ u, v = .func (.func f) #[] #[u] ∧ Rep m k p u := by
  obtain ⟨vs, rfl, hl, hr⟩ := fn_inv h
  have h0 := hr 0 _ rfl
  obtain ⟨l⟩ := vs
  rcases l with _ | ⟨u, _ | ⟨a, l⟩⟩ <;> simp at hl
  exact ⟨u, rfl, h0⟩
theorem srtI_none (l : List Sp) (d : List (_root_.Fin l.length)) (h : d.length = 0) : srtI l d = [] := by
  have := List.length_eq_zero_iff.1 h
  subst this
  unfold srtI
  split
  · rename_i hl
    letI : Inhabited (_root_.Fin l.length) := ⟨⟨0, hl⟩⟩
    have h := pdq_sorts (ltOf (cfI l)) (swoI l) #[] 0 0 (Lib.bitLen 0) true true (Nat.zero_le _) (Nat.le_refl _) (Or.inl rfl)
    have h2 := h.1.1
    exact List.length_eq_zero_iff.1 (by simpa using h2)
  · rfl
theorem sort_far {α : Type} [Inhabited α] (enc : α → Value) {w : World} {g n : Nat} {os : Array Obj} (D : Array α) : w.grownBy (grow (putRow enc (Sort.ahead w n) g 0 D) os) (some g) := by
  refine ⟨rfl, rfl, rfl, by simp, fun k hk hne => ?_⟩
  rw [heap_grow_old _ _ (by simpa using hk)]
  have : g ≠ k := fun e => hne (by rw [e])
  simp [putRow, mapBlock, Sort.ahead, Array.getElem?_modify, this]
theorem sort_put {α : Type} [Inhabited α] (enc : α → Value) {w : World} {g n : Nat} {os : Array Obj} {cur : Array Value} {e : TypeId} {fr : Nat × Nat} (D : Array α) (hb : w.heap[g]? = some (.cells cur e fr)) :
    (grow (putRow enc (Sort.ahead w n) g 0 D) os).heap[g]? = some (.cells (putCells enc 0 D cur) e fr) := by
  have hg : g < w.heap.size := (Array.getElem?_eq_some_iff.1 hb).1
  rw [heap_grow_old _ _ (by simpa using hg)]
  simp [putRow, mapBlock, Sort.ahead, Array.getElem?_modify, hb, onCells]
theorem sort_cell {α : Type} [Inhabited α] (enc : α → Value) {w : World} {g n c o : Nat} {os : Array Obj} (D : Array α) {v : Value} (hne : c ≠ g) (h : w.cell? ⟨c, o, none⟩ = some v) : (sortWorld enc w g 0 n D os).cell? ⟨c, o, none⟩ = some v := by
  have hc : c < w.heap.size := by
    unfold World.cell? at h
    rcases Nat.lt_or_ge c w.heap.size with h1 | h1
    · exact h1
    · rw [Array.getElem?_eq_none h1] at h
      cases h
  obtain ⟨_, _, _, _, h5⟩ := sort_far enc (w := w) (g := g) (n := n) (os := os) D
  have h6 := h5 c hc (fun e => hne (by simpa using e))
  unfold sortWorld
  unfold World.cell? at h ⊢
  rw [h6]
  exact h
theorem ext23 : ExtSOk Try.prog 23 xSortI := by
  intro args bl p bl' h
  unfold xSortI at h
  split at h
  · rename_i b ver lo len bb bv
    split at h
    · rename_i x hx
      split at h
      · rename_i y hy
        split at h
        · rename_i hc
          obtain ⟨e1, rfl, hlen, hmax, hbb, ey⟩ := hc
          split at h
          · rename_i rows hyr0
            split at h
            · rename_i l hl0
              split at h
              · rename_i d hd0
                cases h
                have hrows := finOf_eq hd0
                have hsp := spOf_eq hl0
                obtain ⟨hb, hver⟩ := getB_inv hx
                obtain ⟨hyb, hyver⟩ := getB_inv hy
                have hlz : len = d.length := by rw [hlen, hrows]; simp [finRows]
                refine ⟨⟨Try.f23, Try.func23, rfl, by decide⟩, fun B k m w vs hl hr hin => ?_⟩
                obtain ⟨v, u, rfl, h1, h2⟩ := two_argk hl hr
                obtain ⟨pv, rfl, hpt⟩ := fn1_inv h2
                obtain ⟨i, hbk, hi, hvi, _, ho⟩ := own_inv h1
                have hat := At.blk (hin.own.at_ b x i hb hi) (by rw [e1]; decide)
                have hv := ho (by rw [hat.ver, hver])
                have hie : i.e = 1 := by rw [hat.e, e1]
                have hbl : b < bl.length := (List.getElem?_eq_some_iff.1 hb).1
                have hvs : ∃ pp cc, v = .slice pp len cc := by
                  rcases hv with ⟨h0, _, ad, rfl⟩ | ⟨hvirt, cap, rfl, _⟩
                  · exact ⟨ad, 0, by rw [h0]⟩
                  · exact ⟨_, cap, rfl⟩
                by_cases hd0' : d.length = 0
                · obtain ⟨pp, cc, rfl⟩ := hvs
                  have hs0 := srtI_none l d hd0'
                  have hdn : d = [] := List.length_eq_zero_iff.1 hd0'
                  have hx' : (⟨x.ver, x.e, x.flat, finRows (srtI l d)⟩ : Blk) = x := by
                    rw [hs0]
                    subst hdn
                    cases x
                    simp only at hrows
                    rw [hrows]
                  rw [hx']
                  have C := AnyF.slices_SortFunc_none Try.sortI0 pp cc (.func (.func 24) #[] #[pv]) w
                  change Calls Try.prog 23 _ _ _ at C
                  rw [show len = 0 by omega]
                  refine C.mono ?_
                  rintro e w' ⟨rfl, rfl⟩
                  refine ⟨_, m.addBlk b i, k, rfl, EffOut.put i hin (x' := x) (id := b) (by simp [hbl]) (fun j hj => by rw [List.getElem?_set_ne (by omega)]) (Nat.le_refl _) (by simp) (fun _ _ _ => rfl) (Below.refl _ _) (fun i0 _ hi0 => .inl (by rw [hi] at hi0; exact Option.some.inj hi0)) ?_ (fun hv => .inr ⟨x, i, hb, hi, hv, rfl⟩) (.tup rfl fun i p hp => by simp at hp)⟩
                  have : m.addBlk b i = m := by
                    unfold Mem.addBlk
                    congr 1
                    funext j
                    split
                    · rename_i hj; rw [hj, hi]
                    · rfl
                  rw [this]
                  exact hat
                · clear hvs
                  rcases hv with ⟨h0, _, ad, rfl⟩ | ⟨hvirt, cap, rfl, hcap1, hcap2, hcap3⟩
                  · omega
                  have hl1 : 0 < l.length := by
                    cases d with
                    | nil => simp at hd0'
                    | cons z _ => exact Nat.lt_of_le_of_lt (Nat.zero_le _) z.isLt
                  obtain ⟨ex, hyr⟩ := boxOf_sl hyr0 (fun h => by rw [hsp] at h; have h2 : (spRows l).length = 0 := by rw [h]; rfl
                                                                 simp only [spRows, List.length_map] at h2; omega)
                  letI : Inhabited (_root_.Fin l.length) := ⟨⟨0, hl1⟩⟩
                  have hpd : pdq (ltOf (cfI l)) d.toArray 0 d.toArray.size (Lib.bitLen d.toArray.size) true true = (srtI l d).toArray := by
                    unfold srtI
                    rw [dif_pos hl1]
                  have hsl : (srtI l d).length = d.length := by
                    have h := pdq_sorts (ltOf (cfI l)) (swoI l) d.toArray 0 d.toArray.size (Lib.bitLen d.toArray.size) true true (Nat.zero_le _) (Nat.le_refl _) (Or.inl rfl)
                    rw [hpd] at h
                    have := h.1.1
                    simpa using this
                  rcases hat.mem with ⟨hv, _⟩ | ⟨_, cur, ty, hheap, hsize, hn1, hn2, hri⟩
                  · rw [hvirt] at hv; cases hv
                  have hin' : i.n = d.length := by rw [hat.n, hrows]; simp [finRows]
                  rw [e1, hrows] at hri
                  have hcs : d.length ≤ cur.size := by rw [hsize, hie]; omega
                  have cell : ∀ (r : Nat) (z : _root_.Fin l.length), d[r]? = some z → cur[r]? = some (encF z) := by
                    intro r z hz
                    have hrow : (finRows d)[r]? = some [.int .i64 (z.val : Int)] := by simp [finRows, hz]
                    obtain ⟨v0, a1, _, a3⟩ := hri r _ 0 _ hrow rfl
                    have := int_inv a3
                    subst this
                    simpa [encF] using a1
                  have hH : Holds (encF (n := l.length)) w i.g 0 d.toArray := by
                    intro j hj
                    refine ⟨?_, by simp [World.frozen?, hheap]⟩
                    have hjd : j < d.length := by simpa using hj
                    have h9 := cell j _ (List.getElem?_eq_getElem hjd)
                    have h10 : d.toArray[j]! = d[j] := by rw [getElem!_pos _ _ (by simpa using hjd)]; simp
                    simp only [World.cell?, hheap, Nat.zero_add, h10]
                    simp only [Option.isSome_none, Bool.false_eq_true, if_false]
                    exact h9
                  -- the list's variable, and the list
                  obtain ⟨iy, hbky, hiy, hvy, _, hoy⟩ := ptr_inv hpt
                  have haty := At.blk (hin.own.at_ bb y iy hyb hiy) (by rw [ey]; decide)
                  rcases haty.mem with ⟨_, hnil⟩ | ⟨hvirty, cury, tyy, hheapy, hsizey, _, _, hriy⟩
                  · rw [hyr] at hnil; cases hnil
                  have hpv := hoy (by rw [haty.ver, hyver]) hvirty
                  have hiey : iy.e = 1 := by rw [haty.e, ey]
                  rw [hiey, Nat.zero_mul, Nat.add_zero] at hpv
                  rw [hyr] at hriy
                  obtain ⟨u0, c1, _, c3⟩ := hriy 0 _ 0 _ rfl rfl
                  rw [Nat.zero_mul, Nat.zero_add] at c1
                  obtain ⟨base, cap0, rfl, _, _, _, hbase⟩ := sl_inv c3
                  rw [hsp] at hbase
                  have hspl : (spRows l).length = l.length := by simp [spRows]
                  rcases hbase with hnil | ⟨g, off, rfl, _, hcells⟩
                  · rw [hnil] at hspl; simp at hspl; omega
                  have lc : ∀ (z : _root_.Fin l.length), m.cell g (off + z.val * 2) = some (.int .i64 (kF l z)) ∧ m.cell g (off + z.val * 2 + 1) = some (.int .i64 (kT l z)) := by
                    intro z
                    have hrow : (spRows l)[z.val]? = some [.int .i64 (kF l z), .int .i64 (kT l z)] := by
                      simp [spRows, kF, kT]
                    obtain ⟨a0, b0, b1⟩ := hcells z.val _ 0 _ hrow rfl
                    obtain ⟨a1, b2, b3⟩ := hcells z.val _ 1 _ hrow rfl
                    have := int_inv b1
                    have := int_inv b3
                    subst_vars
                    exact ⟨by simpa using b0, b2⟩
                  have hgne : g ≠ i.g := by
                    intro e
                    have h9 := (hin.own.base b x i hb hi hvirt).2 (off + 0 * 2)
                    have h10 := (lc ⟨0, hl1⟩).1
                    rw [e] at h10
                    rw [h9] at h10
                    cases h10
                  have hyne : iy.g ≠ i.g := fun e => hbb (hin.own.inj b x i bb y iy hb hi hyb hiy hvirt hvirty e.symm)
                  have hbox : w.cell? ⟨iy.g, 0, none⟩ = some (.slice (some ⟨g, off, none⟩) l.length cap0) := by
                    simp only [World.cell?, hheapy]
                    simp only [Option.isSome_none, Bool.false_eq_true, if_false]
                    rw [c1, hsp, hspl]
                  have hlt : i.g < w.heap.size := hat.lt hvirt
                  have eg : ∀ args w, (callFunc 24 args).run Try.prog w = .ok (.enter 24 args) w := enters_of Try.func24 (by kernel_rfl) rfl
                  have hcmp : CmpLays1 Try.prog 24 #[.pointer (some ⟨iy.g, 0, none⟩)] (encF (n := l.length)) (cfI l) i.g 0 d.toArray.size w := by
                    intro mm os dk _ z1 z2
                    have f1 := fun o v (h : m.cell g o = some v) => sort_cell (encF (n := l.length)) (n := mm) (os := os) dk hgne (hin.frz.1 g o v h).1
                    exact closure24 iy.g g off l.length cap0 z1.val z2.val (kF l z1) (kT l z1) (kF l z2) (kT l z2) z1.isLt z2.isLt _ (sort_cell _ dk hyne hbox) (f1 _ _ (lc z1).1) (f1 _ _ (lc z1).2) (f1 _ _ (lc z2).1) (f1 _ _ (lc z2).2)
                  have C := Any.slices_SortFunc_eq Try.sortI (encF (n := l.length)) (fun _ => rfl) (cfI l) (swoI l) 24 #[.pointer (some ⟨iy.g, 0, none⟩)] i.g 0 cap d.toArray w eg hcmp hH hlt (by simp; omega)
                  change Calls Try.prog 23 _ _ _ at C
                  rw [hpd] at C
                  rw [hlz, hpv]
                  simp only [Nat.zero_mul]
                  have hsz : d.toArray.size = d.length := by simp
                  rw [hsz] at C
                  refine C.mono ?_
                  rintro e w' ⟨rfl, n, os, rfl⟩
                  unfold sortWorld
                  obtain ⟨q1, q2, q3, q4, q5⟩ := sort_far (encF (n := l.length)) (w := w) (g := i.g) (n := n) (os := os) (srtI l d).toArray
                  have far : ∀ g', g' < w.heap.size → g' ≠ i.g → (grow (putRow (encF (n := l.length)) (Sort.ahead w n) i.g 0 (srtI l d).toArray) os).heap[g']? = w.heap[g']? := fun g' h1 h2 => q5 g' h1 (fun e => h2 (by simpa using e))
                  refine ⟨_, m.addBlk b i, k, rfl, EffOut.put i hin (x' := ⟨x.ver, x.e, x.flat, finRows (srtI l d)⟩) (id := b) ?_ ?_ (Nat.le_refl _) (by simp) ?_ ?_ (fun i0 _ hi0 => .inl (by rw [hi] at hi0; exact Option.some.inj hi0)) ?_ (fun hv => .inr ⟨x, i, hb, hi, hv, rfl⟩) ?_⟩
                  · simp [hbl]
                  · intro j hj
                    rw [List.getElem?_set_ne (by omega)]
                  · intro g' hg' hne
                    exact far g' hg' (hne x i hb hi hvirt)
                  · refine ⟨q1, q2, q3, q4, fun g' hg' => ?_⟩
                    have hB := (hin.own.base b x i hb hi hvirt).1
                    exact far g' (by omega) (by omega)
                  · refine ⟨hat.ver, hat.e, ?_, ?_, .inr ⟨hvirt, putCells (encF (n := l.length)) 0 (srtI l d).toArray cur, ty, sort_put _ _ hheap, ?_, hn1, hn2, ?_⟩, hat.ne⟩
                    · simp only [finRows, List.length_map]; omega
                    · intro r hr
                      simp only [finRows, List.mem_map] at hr
                      obtain ⟨z, _, rfl⟩ := hr
                      simp [e1]
                    · rw [← hsize]; simp [putCells]
                    · intro r row j p hr hp
                      simp only [finRows, List.getElem?_map, Option.map_eq_some_iff] at hr
                      obtain ⟨z, hz, rfl⟩ := hr
                      have hrl : r < (srtI l d).length := (List.getElem?_eq_some_iff.1 hz).1
                      have hj2 : j < 1 := by have := (List.getElem?_eq_some_iff.1 hp).1; simpa using this
                      obtain rfl : j = 0 := by omega
                      simp at hp
                      subst hp
                      have hcur : r < cur.size := by omega
                      simp only [e1, Nat.mul_one, Nat.add_zero]
                      refine ⟨encF z, ?_, rfl, .int⟩
                      unfold putCells
                      rw [Array.getElem?_mapIdx, Array.getElem?_eq_getElem hcur]
                      simp only [Option.map_some, Nat.zero_le, true_and, Nat.zero_add, List.size_toArray, Nat.sub_zero]
                      rw [if_pos hrl]
                      have e7 : (srtI l d).toArray[r]! = z := by
                        rw [getElem!_pos _ _ (by simpa using hrl)]
                        simp [(List.getElem?_eq_some_iff.1 hz).2]
                      rw [e7]
                  · exact .tup rfl fun i p hp => by simp at hp
              · cases h
            · cases h
          · cases h
        · cases h
      · cases h
    · cases h
  · cases h
end Go.Proofs.Ytkodjmlhmpokoaa
