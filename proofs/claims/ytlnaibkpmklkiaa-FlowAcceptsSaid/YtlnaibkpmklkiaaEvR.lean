/- Appends and copies. -/
import Derived.Test.YtlnaibkpmklkiaaEvO
namespace Go.Proofs.Ytlnaibkpmklkiaa
open Go Go.RowKit
set_option linter.unusedSectionVars false
variable [Bs]
set_option linter.unusedVariables false
set_option linter.unusedSimpArgs false

section
variable {P : Program} {own : List Nat} {o : Oper}

/-- what an appended or copied value reads as -/
structure News (P : Program) (m : Mem) (k : Nat) (w : World) (e : Nat) (news : List (List PV)) (x : Value) (cs : List Value) : Prop where
  len : cs.length = news.length * e
  rowl : ∀ r ∈ news, r.length = e
  lenOf : ∀ w, (Builtin.lenOf x).run P w = .ok news.length w
  first : ∀ n, n ≤ news.length → ∀ w', (∀ b o, w'.cell? ⟨b, o, none⟩ = w.cell? ⟨b, o, none⟩) → (Builtin.firstCells e n x).run P w' = .ok (cs.take (n * e)).toArray w'
  one : ∀ u ∈ cs, u.oneCell' = true
  rep : ∀ (i : Nat) (row : List PV) (j : Nat) (q : PV), news[i]? = some row → row[j]? = some q → ∃ u, cs[i * e + j]? = some u ∧ Rep m k q u

theorem news_read {B k : Nat} {m : Mem} {w : World} {bl BL : Blks} {ns : List Blk} (hin : PurIn B k m w bl ns BL) {e : Nat} (he : 0 < e) {p : PV} {news : List (List PV)} {x : Value}
    (h : (match p with | .str t => if e = 1 then some (rowsOfBytes t) else none | p => rowsOf e bl p) = some news) (hr : Rep m k p x) : ∃ cs, News P m k w e news x cs := by
  split at h
  · rename_i t
    split at h
    · rename_i he1
      cases h
      subst he1
      obtain ⟨s, rfl, hs⟩ := str_inv hr
      have hsz : t.length = s.size := by rw [← hs]; rfl
      refine ⟨t.map fun b => .int .u8 (b.toNat : Int), by simp [rowsOfBytes], fun r hr => ?_, fun w => by simp [Builtin.lenOf, rowsOfBytes, hsz], fun n hn w' _ => ?_, fun u hu => ?_, fun i row j q hi hj => ?_⟩
      · simp only [rowsOfBytes, List.mem_map] at hr
        obtain ⟨b, _, rfl⟩ := hr
        rfl
      · simp only [Builtin.firstCells, Sem.run_pure, Nat.mul_one]
        congr 1
        apply Array.ext'
        rw [← hs]
        simp [List.map_take, List.extract_eq_drop_take']
      · simp only [List.mem_map] at hu
        obtain ⟨b, _, rfl⟩ := hu
        rfl
      · simp only [rowsOfBytes, List.getElem?_map, Option.map_eq_some_iff] at hi
        obtain ⟨b, hb, rfl⟩ := hi
        cases j with
        | zero => simp at hj; subst hj; exact ⟨_, by simp [hb], .int⟩
        | succ j => simp at hj
    · cases h
  · obtain ⟨base, cap, h1, h2, h3⟩ := rows_read hin h hr
    subst h1
    rcases h3 with rfl | ⟨b, off, rfl, h4⟩
    · exact ⟨[], by simp, by simp, fun w => by simp [Builtin.lenOf], fun n hn w' _ => by
        have : n = 0 := by simpa using hn
        subst this
        cases base <;> simp [Builtin.firstCells, loadCells, loadCellsFrom], by simp, fun i row j q hi => by simp at hi⟩
    · obtain ⟨cs, c1, c2⟩ := list_ex (P := fun t u => w.cell? ⟨b, off + t, none⟩ = some u ∧ u.oneCell' = true ∧ ∀ row q, news[t / e]? = some row → row[t % e]? = some q → Rep m k q u) (news.length * e) (fun t ht => by
        have hi : t / e < news.length := Nat.div_lt_of_lt_mul (by rw [Nat.mul_comm]; exact ht)
        have hrow : (news[t / e]).length = e := h2 _ (List.getElem_mem hi)
        have hj : t % e < (news[t / e]).length := by rw [hrow]; exact Nat.mod_lt _ he
        obtain ⟨u, g1, g2, g3⟩ := h4 (t / e) _ (t % e) _ (List.getElem?_eq_getElem hi) (List.getElem?_eq_getElem hj)
        have : off + t / e * e + t % e = off + t := by have := Nat.div_add_mod t e; rw [Nat.mul_comm] at this; omega
        rw [this] at g1
        exact ⟨u, g1, g2, fun row q hrow hq => by rw [List.getElem?_eq_getElem hi] at hrow; cases hrow; rw [List.getElem?_eq_getElem hj] at hq; cases hq; exact g3⟩)
      refine ⟨cs, c1, h2, fun w => by simp [Builtin.lenOf], fun n hn w' hw' => ?_, fun u hu => ?_, fun i row j q hi hj => ?_⟩
      · refine run_firstCells_some w' e n ⟨b, off, none⟩ _ _ (cs.take (n * e)) ?_ (fun j v hj => ?_)
        · have : n * e ≤ news.length * e := Nat.mul_le_mul_right _ hn
          simp; omega
        · rw [List.getElem?_take] at hj
          split at hj
          · rw [Addr.add_lit, hw']; exact (c2 j v hj).1
          · cases hj
      · obtain ⟨t, ht⟩ := List.getElem?_of_mem hu
        exact (c2 t u ht).2.1
      · have hil : i < news.length := (List.getElem?_eq_some_iff.1 hi).1
        have hjl : j < e := by rw [← h2 row (List.mem_of_getElem? hi)]; exact (List.getElem?_eq_some_iff.1 hj).1
        have ht : i * e + j < cs.length := by
          rw [c1]
          have : (i + 1) * e ≤ news.length * e := Nat.mul_le_mul_right _ (by omega)
          rw [Nat.add_mul] at this
          omega
        have hd : (i * e + j) / e = i := by rw [Nat.mul_comm, Nat.mul_add_div he, Nat.div_eq_of_lt hjl, Nat.add_zero]
        have hm : (i * e + j) % e = j := by rw [Nat.mul_comm, Nat.mul_add_mod, Nat.mod_eq_of_lt hjl]
        have := (c2 _ _ (List.getElem?_eq_getElem ht)).2.2 row q (by rw [hd]; exact hi) (by rw [hm]; exact hj)
        exact ⟨_, List.getElem?_eq_getElem ht, this⟩

/-- append of nothing, or with room -/
theorem run_app_room {w : World} {t u ty e : TypeId} {i : TypeInfo} {du : TypeDesc} (ht : P.underlying t = some (.slice e)) (hu : P.underlying u = some du) (hdu : ∀ k, du ≠ .int k) (hi : P.info? e = some i)
    {m : Mem} {k : Nat} {news : List (List PV)} {x : Value} {cs : List Value} (hx : News P m k w i.size news x cs) {g off sLen sCap : Nat} {cur : Array Value} {tt : TypeId} (hg : w.heap[g]? = some (.cells cur tt (0, 0)))
    (hroom : sLen + news.length ≤ sCap) (hfit : off + sLen * i.size + cs.length ≤ cur.size) :
    (Builtin.append_ #[t, u] ty #[.slice (some ⟨g, off, none⟩) sLen sCap, x]).run P w =
      .ok (.slice (some ⟨g, off, none⟩) (sLen + news.length) sCap) (w.setRow g (cur.toList.take (off + sLen * i.size) ++ cs ++ cur.toList.drop (off + sLen * i.size + cs.length)).toArray) := by
  have hf := hx.first news.length (Nat.le_refl _) w (fun _ _ => rfl)
  rw [← hx.len, List.take_length] at hf
  have hst := run_storeCells_at P g (off + sLen * i.size) tt cs 0 cur w hg (by simpa using hfit) hx.one
  simp only [Nat.add_zero] at hst
  have hz : (match du with | .int _ => true | _ => false) = false := by cases du <;> first | rfl | exact absurd rfl (hdu _)
  simp [Builtin.append_, run_underlying ht, run_underlying hu, sizeOf, typeInfo, hi, hx.lenOf, hz, hroom, hf, Addr.add_lit, hst]

theorem run_app_none {w : World} {t u ty e : TypeId} {i : TypeInfo} {du : TypeDesc} (ht : P.underlying t = some (.slice e)) (hu : P.underlying u = some du) (hdu : ∀ k, du ≠ .int k) (hi : P.info? e = some i)
    {m : Mem} {k : Nat} {x : Value} {cs : List Value} (hx : News P m k w i.size [] x cs) {a : Option Addr} {sLen sCap : Nat} (hroom : sLen ≤ sCap) :
    (Builtin.append_ #[t, u] ty #[.slice a sLen sCap, x]).run P w = .ok (.slice a sLen sCap) w := by
  have hf := hx.first 0 (Nat.le_refl _) w (fun _ _ => rfl)
  simp only [Nat.zero_mul, List.take_zero] at hf
  have hz : (match du with | .int _ => true | _ => false) = false := by cases du <;> first | rfl | exact absurd rfl (hdu _)
  have hl := hx.lenOf
  simp only [List.length_nil] at hl
  cases a <;> simp [Builtin.append_, run_underlying ht, run_underlying hu, sizeOf, typeInfo, hi, hl, hz, hroom, hf, storeCells]

theorem run_app_grow {w : World} {t u ty e : TypeId} {i : TypeInfo} {z : Value} {du : TypeDesc} (ht : P.underlying t = some (.slice e)) (hu : P.underlying u = some du) (hdu : ∀ k, du ≠ .int k) (hi : P.info? e = some i) (hzv : i.zero = some z)
    {m : Mem} {k : Nat} {news : List (List PV)} {x : Value} {cs : List Value} (hx : News P m k w i.size news x cs) {a : Option Addr} {sLen sCap : Nat} {olds : List Value}
    (holds : ∀ w', (∀ b o, w'.cell? ⟨b, o, none⟩ = w.cell? ⟨b, o, none⟩) → (Builtin.firstCells i.size sLen (.slice a sLen sCap)).run P w' = .ok olds.toArray w')
    (hg : sCap < sLen + news.length) (h1 : sLen + news.length ≤ 140737488355328) (h2 : (sLen + news.length) * i.bytes ≤ 140737488355328) :
    ∃ cap, sLen + news.length ≤ cap ∧ cap ≤ maxLen ∧ (Builtin.append_ #[t, u] ty #[.slice a sLen sCap, x]).run P w =
      .ok (.slice (some ⟨w.heap.size, 0, none⟩) (sLen + news.length) cap) (w.drew.alloc (.cells (olds.toArray ++ cs.toArray ++ Builtin.zeroCells z.cells (cap - (sLen + news.length))) e)) := by
  have hf := hx.first news.length (Nat.le_refl _) w.drew (fun _ _ => rfl)
  rw [← hx.len, List.take_length] at hf
  have ho := holds w.drew (fun _ _ => rfl)
  have hz : (match du with | .int _ => true | _ => false) = false := by cases du <;> first | rfl | exact absurd rfl (hdu _)
  have hn : ¬ (sLen + news.length ≤ sCap) := by omega
  have h63' : ¬ (9223372036854775807 < ((sLen : Int) + (news.length : Int))) := by omega
  have h48 := growslice_fits hg h2
  have h48' : ¬ (281474976710656 < Builtin.nextslicecap (sLen + news.length) sCap * i.bytes) := by omega
  refine ⟨grownCap w (sLen + news.length) sCap e, grownCap_ge _ _ _ _, grownCap_le_maxLen _ _ _ _ (by simp [maxLen]; omega), ?_⟩
  simp [Builtin.append_, run_underlying ht, run_underlying hu, sizeOf, typeInfo, zeroValue, hi, hzv, hx.lenOf, hz, hn, h63', h48', Question.forced, hf, ho, newRow, grownCap]
  congr 2
  apply Array.ext'
  simp [List.append_assoc]

end
end Go.Proofs.Ytlnaibkpmklkiaa
