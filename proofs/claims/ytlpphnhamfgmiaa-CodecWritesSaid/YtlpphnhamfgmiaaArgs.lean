/- What a walk is told of a byte slice that came in, and conversions between byte slices and strings. -/
import Derived.Test.YtlpphnhamfgmiaaLives
import Derived.ShutString
namespace Go.Proofs.Ytlpphnhamfgmiaa
open Go.ChangeShapes Go.WideShapes Go.ChangeAt Go.RowKit

/-- a slice of integers that came in: nil, or a row of cells -/
def IsRow (k : IntKind) (w : World) (a : Option Addr) (len cap : Nat) (zs : List Int) : Prop :=
  (a = none ∧ len = 0 ∧ cap = 0 ∧ zs = []) ∨
  ∃ x, a = some x ∧ len ≤ cap ∧ cap ≤ maxLen ∧ zs.length = cap ∧ (∀ i, i < zs.length → w.cell? (x.add i) = some (.int k (zs.getD i 0))) ∧ ∀ n ∈ zs, (Lit.int k n).wf = true

theorem cell_lt {w : World} {a : Addr} {v : Value} (h : w.cell? a = some v) : a.block < w.heap.size := by
  rcases Nat.lt_or_ge a.block w.heap.size with h1 | h1
  · exact h1
  · simp [World.cell?, Array.getElem?_eq_none h1] at h

/-- what is known of a byte slice that came in -/
structure Arg (w : World) (a : Option Addr) (cap : Nat) (zs : List Int) : Prop where
  row : BRow w a zs
  inb : InB zs
  reads : Reads w w.heap.size 1 a zs.length (zs.map (Value.int .u8))
  nil : a = none → cap = 0
  le : zs.length ≤ cap
  max : cap ≤ 9223372036854775807

theorem arg_of {w : World} {a : Option Addr} {len cap : Nat} {z0 : List Int} (h : IsRow .u8 w a len cap z0) : ∃ zs : List Int, len = zs.length ∧ Arg w a cap zs := by
  rcases h with ⟨rfl, rfl, rfl, rfl⟩ | ⟨x, rfl, hl, hm, hz, hcell, hwf⟩
  · exact ⟨[], rfl, ⟨.inl rfl, (fun z hz => by cases hz), Reads.none_, fun _ => rfl, Nat.le_refl _, by decide⟩⟩
  · have hlen : (z0.take len).length = len := by simp; omega
    have hg : ∀ j, j < len → (z0.take len).getD j 0 = z0.getD j 0 := fun j hj => by simp [List.getD, hj]
    refine ⟨z0.take len, hlen.symm, ?_, ?_, ?_, (fun h => by cases h), by omega, by unfold maxLen at hm; omega⟩
    · by_cases h0 : len = 0
      · subst h0; exact .inl (by simp)
      · obtain ⟨b, off, spot⟩ := x
        have hc := hcell 0 (by omega)
        have hspot : spot = none := by simpa [Addr.add] using World.cell?_spot hc
        subst hspot
        refine .inr ⟨b, off, rfl, fun j hj => ?_⟩
        rw [hlen] at hj
        have := hcell j (by omega)
        rw [hg j hj, ← this]
        congr 1
        unfold Addr.add; split <;> simp_all
    · intro z hz'
      have := hwf z (List.mem_of_mem_take hz')
      simpa [Lit.wf, IntKind.min, IntKind.max, IntKind.signed, IntKind.bits] using this
    · refine ⟨by simp, fun hn => ⟨x, rfl, ?_, fun j u hj => ?_⟩⟩
      · have := cell_lt (hcell 0 (by omega))
        rwa [block_of_add] at this
      · have hj' : j < len := by
          have := (List.getElem?_eq_some_iff.1 hj).1
          simp at this; omega
        rw [hcell j (by omega), ← hg j hj', ← hj]
        have : j < (z0.take len).length := by omega
        simp only [List.getElem?_map, List.getD, List.getElem?_eq_getElem this, Option.map_some, Option.getD_some]

theorem BRow.keep {w w' : World} {a : Option Addr} {zs : List Int} (h : BRow w a zs) (hk : ∀ p : Addr, p.block < w.heap.size → w'.cell? p = w.cell? p) : BRow w' a zs := by
  rcases h with rfl | ⟨b, off, rfl, hc⟩
  · exact .inl rfl
  · refine .inr ⟨b, off, rfl, fun j hj => ?_⟩
    rw [hk _ (cell_lt (hc j hj))]
    exact hc j hj
theorem Arg.keep {w w' : World} {a : Option Addr} {cap : Nat} {zs : List Int} (h : Arg w a cap zs) (hb : Below w.heap.size w w') : Arg w' a cap zs :=
  ⟨h.row.keep fun _ hp => hb.cell hp, h.inb, (h.reads.below hb).more hb.size, h.nil, h.le, h.max⟩

theorem strOfNums_nil : strOfNums [] = ByteArray.empty := rfl
theorem conv_row {w : World} {a : Option Addr} {zs : List Int} (h : BRow w a zs) (n cap : Nat) (hn : n = zs.length) : (convert 22 9 (.slice a n cap)).run Try.prog w = .ok (.string (strOfNums zs)) w := by
  subst hn
  rcases h with rfl | ⟨b, off, rfl, hc⟩
  · rcases a with _ | ad
    · exact run_convert_bytes_nil w 22 5 Try.underlying22 Try.underlying5 _ _ 9 Try.underlying9
    · exact run_convert_bytes_back w 22 9 5 ad cap [] Try.underlying22 Try.underlying5 Try.underlying9 (fun j hj => by simp at hj)
  · exact run_convert_bytes_arg w 22 5 Try.underlying22 Try.underlying5 b off _ cap zs rfl hc 9 Try.underlying9

/-- the row that '[]byte(s)' lays -/
theorem bytes_brow (w : World) (zs : List Int) (hin : InB zs) (cap : Nat) (fr : Nat × Nat) : BRow (w.alloc (.cells (bytesRow (strOfNums zs) cap) 5 fr)) (some ⟨w.heap.size, 0, none⟩) zs := by
  refine .inr ⟨w.heap.size, 0, rfl, fun j hj => ?_⟩
  rw [Nat.zero_add, World.cell?_alloc_mark]
  unfold bytesRow
  rw [Array.getElem?_append_left (by simp [strOfNums]; exact hj)]
  have hz := hin.getD j
  have hzj : zs.getD j 0 = zs[j] := by simp [List.getD, hj]
  rw [hzj] at hz ⊢
  simp only [strOfNums, List.map_toArray, List.getElem?_toArray, List.getElem?_map, List.getElem?_eq_getElem hj, Option.map_some]
  congr 2
  have : (UInt8.ofNat (zs[j]).toNat).toNat = (zs[j]).toNat := by
    rw [UInt8.toNat_ofNat']; omega
  rw [this]; omega
end Go.Proofs.Ytlpphnhamfgmiaa
