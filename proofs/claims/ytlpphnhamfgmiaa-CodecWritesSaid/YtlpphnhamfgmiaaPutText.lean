import Derived.Test.YtlpphnhamfgmiaaArgs
import Derived.Lib.SlBuf
import Derived.Lib.BufferWrite
namespace Go.Proofs.Ytlpphnhamfgmiaa
open Go.ChangeShapes Go.WideShapes Go.ChangeAt Go.RowKit

/-- the bytes of a string as numbers -/
def nums (s : ByteArray) : List Int := s.data.toList.map fun b => (b.toNat : Int)
theorem nums_length (s : ByteArray) : (nums s).length = s.size := by
  unfold nums; rw [List.length_map]; rfl

/-- a byte slice that was just made: it reads as zs -/
structure Made (B : Nat) (w : World) (g N c : Nat) (zs : List Int) : Prop where
  len : N = zs.length
  le : N ≤ c
  max : c ≤ maxLen
  lo : B ≤ g
  lt : g < w.heap.size
  cell : ∀ j, j < zs.length → w.cell? ⟨g, j, none⟩ = some (.int .u8 (zs.getD j 0))

theorem putint_made (A : Option Addr) (cap : Nat) (zs : List Int) (n : Int) (w : World) (N : Nat) (hN : N = zs.length + (enc n).length) (hn0 : -9223372036854775808 ≤ n) (hn1 : n ≤ 9223372036854775807)
    (hr : Reads w w.heap.size 1 A zs.length (zs.map (Value.int .u8))) (hnil : A = none → cap = 0) (hlen : zs.length ≤ 100000) (hcap : zs.length ≤ cap) (hcm : cap ≤ 9223372036854775807) :
    Calls Try.prog 12 #[.slice A zs.length cap, .int .i64 n] w fun e w' => ∃ g c, e = .returned (.slice (some ⟨g, 0, none⟩) N c) ∧ Made w.heap.size w' g N c (zs ++ enc n) ∧ Below w.heap.size w w' := by
  refine (putint_row A cap zs n w hn0 hn1 hr hnil hlen hcap hcm).mono ?_
  rintro e W ⟨v, rfl, hown, hbel⟩
  have hel := enc_len n
  obtain ⟨g, c, rfl, hn, hgc, hcm, hbg, hgl, hcell⟩ := own_slice hown (by omega)
  subst hN
  exact ⟨g, c, rfl, ⟨hn, hgc, hcm, hbg, hgl, hcell⟩, hbel⟩

/-- n zero bytes -/
def rep (n : Nat) : List Value := List.replicate n (.int .u8 0)
theorem rep_length (n : Nat) : (rep n).length = n := by unfold rep; simp
theorem setRow_new (w : World) (X Y : Array Value) (t : TypeId) (fr : Nat × Nat) : (w.alloc (.cells X t fr)).setRow w.heap.size Y = w.alloc (.cells Y t fr) := by
  unfold World.setRow World.alloc
  congr 1
  simp only
  apply Array.ext
  · simp
  · intro i h1 h2
    simp only [Array.getElem_modify, Array.getElem_push]
    by_cases h : w.heap.size = i
    · subst h; simp
    · have hi : i < w.heap.size := by simp at h1; omega
      simp [h, hi]
theorem heap_new (w : World) (o : Obj) : (w.alloc o).heap[w.heap.size]? = some o := by
  show (w.heap.push o)[w.heap.size]? = _
  simp

theorem byteCells_nums (s : ByteArray) : Lib.byteCells s.data.toList = (nums s).map (Value.int .u8) := by
  unfold Lib.byteCells nums
  simp

theorem take_drop_rep (L : List Value) (m : Nat) : (rep m).take 0 ++ L ++ (rep m).drop (0 + L.length) = L ++ rep (m - L.length) := by
  unfold rep; simp

theorem madeCells_rep (n : Nat) : madeCells #[Value.int .u8 0] n = (rep n).toArray := by
  apply Array.ext
  · simp [madeCells, rep]
  · intro i h1 h2
    simp [madeCells, rep, Nat.mod_one]

/-- make([]byte, n) -/
theorem make_rep (W : World) (n : Nat) (hn : n ≤ 1000000) : (Instr.makeSlice 22 (Value.int IntKind.i64 n) (Value.int IntKind.i64 n)).run Try.prog W = .ok (.slice (some ⟨W.heap.size, 0, none⟩) n n) (W.alloc (.cells (rep n).toArray 5)) := by
  obtain ⟨i0, hi0, hz0, hz1, hz2⟩ := info_parts u8_info
  have := run_make (P := Try.prog) (w := W) 22 5 i0 (.int .u8 0) Try.underlying22 hi0 hz0 .i64 .i64 (n : Int) (n : Int) (by omega) (by omega) (by rw [hz2]; omega) (by omega)
  rw [this, hz1, show ((n : Nat) : Int).toNat = n by omega, Nat.mul_one]
  rw [show (Value.int IntKind.u8 0).cells = #[Value.int .u8 0] by rfl, madeCells_rep]

/-- copying a slice that was just made to the head of a new block -/
theorem copy_head (W : World) (g N c m B : Nat) (L : List Int) (hmade : Made B W g N c L) (hle : N ≤ m) :
    (Builtin.copy_ #[22, 22] 3 #[.slice (some ⟨W.heap.size, 0, none⟩) m m, .slice (some ⟨g, 0, none⟩) N c]).run Try.prog (W.alloc (.cells (rep m).toArray 5)) = .ok (goInt N) (W.alloc (.cells (L.map (Value.int .u8) ++ rep (m - N)).toArray 5)) := by
  obtain ⟨i0, hi0, hz0, hz1, hz2⟩ := info_parts u8_info
  have hl : (L.map (Value.int .u8)).length = N := by rw [List.length_map]; exact hmade.len.symm
  have := run_copy_row (P := Try.prog) (W.alloc (.cells (rep m).toArray 5)) 22 22 3 5 W.heap.size 0 m m ⟨g, 0, none⟩ N c (rep m).toArray 5 (L.map (Value.int .u8)) Try.underlying22 (by rw [hi0]; simp [hz1]) (heap_new _ _) (by rw [hl]; exact (Nat.min_eq_left hle).symm) ?_ (by rw [hl]; simp [rep_length]; exact hle) (one_u8 _)
  · rw [this, hl, setRow_new]
    congr 4
    have := take_drop_rep (L.map (Value.int .u8)) m
    rw [hl] at this
    simpa using this
  · intro j v hj
    have hj' : j < L.length := by
      have := (List.getElem?_eq_some_iff.1 hj).1
      simpa using this
    have e : (⟨g, 0, none⟩ : Addr).add j = ⟨g, j, none⟩ := by unfold Addr.add; split <;> simp_all
    rw [e, World.cell?_alloc_lt _ _ _ (by simpa using hmade.lt), hmade.cell j hj']
    simp [List.getElem?_eq_getElem hj'] at hj
    simp [List.getD, hj', hj]

/-- copying a string behind it -/
theorem copy_tail (W : World) (N : Nat) (L : List Int) (s : ByteArray) (hN : N = L.length) :
    (Builtin.copy_ #[22, 9] 3 #[.slice (some ⟨W.heap.size, N, none⟩) s.size s.size, .string s]).run Try.prog (W.alloc (.cells (L.map (Value.int .u8) ++ rep s.size).toArray 5)) = .ok (goInt s.size) (W.alloc (.cells ((L ++ nums s).map (Value.int .u8)).toArray 5)) := by
  obtain ⟨i0, hi0, hz0, hz1, hz2⟩ := info_parts u8_info
  subst hN
  have := Lib.run_copy_row_string (P := Try.prog) (W.alloc (.cells (L.map (Value.int .u8) ++ rep s.size).toArray 5)) 22 9 3 5 W.heap.size L.length s.size s.size s (L.map (Value.int .u8) ++ rep s.size).toArray 5 Try.underlying22 (by rw [hi0]; simp [hz1]) (heap_new _ _) (Nat.le_refl _) (by simp [rep_length])
  rw [this, setRow_new, byteCells_nums]
  congr 4
  rw [List.take_append_of_le_length (by simp), List.take_of_length_le (by simp), List.drop_eq_nil_of_le (by simp [rep_length])]
  simp

theorem made_new (W : World) (L : List Int) (n B : Nat) (hn : n = L.length) (hB : B ≤ W.heap.size) (hm : n ≤ 1000000) : Made B (W.alloc (.cells (L.map (Value.int .u8)).toArray 5)) W.heap.size n n L :=
  ⟨hn, Nat.le_refl _, by unfold maxLen; omega, hB, by simp, fun j hj => by
    rw [World.cell?_alloc_mark]
    simp [List.getD, hj]⟩

set_option maxRecDepth 100000 in
set_option maxHeartbeats 800000 in
theorem puttext_row (A : Option Addr) (cap : Nat) (zs : List Int) (s : ByteArray) (w : World) (M : Nat) (hM : M = zs.length + (enc s.size).length + s.size) (hs : s.size ≤ 100000)
    (hr : Reads w w.heap.size 1 A zs.length (zs.map (Value.int .u8))) (hnil : A = none → cap = 0) (hlen : zs.length ≤ 100000) (hcap : zs.length ≤ cap) (hcm : cap ≤ 9223372036854775807) :
    Calls Try.prog 13 #[.slice A zs.length cap, .string s] w fun e w' => ∃ g c, e = .returned (.slice (some ⟨g, 0, none⟩) M c) ∧ Made w.heap.size w' g M c (zs ++ enc s.size ++ nums s) ∧ Below w.heap.size w w' := by
  have hel := enc_len s.size
  obtain ⟨N, hN⟩ : ∃ N, N = zs.length + (enc s.size).length := ⟨_, rfl⟩
  have HN := Lib.hid hN
  have hN1 : 1 ≤ N := by omega
  have hN2 : N ≤ 100010 := by omega
  obtain rfl : M = N + s.size := by omega
  clear hN hel hM
  by_cases hemp : s = ByteArray.empty
  · subst hemp
    go_enter Try.func13, Try.ntmps13
    go_wp2_with fail
    refine (putint_made A cap zs _ _ N HN.out (by omega) (by omega) hr hnil hlen hcap hcm).mono ?_
    rintro e W ⟨g, c, rfl, hmade, hbel⟩
    have hmk := make_rep W N (by omega)
    have hcp1 := copy_head W g N c N _ _ hmade (Nat.le_refl _)
    rw [Nat.sub_self, show rep 0 = [] by rfl, List.append_nil] at hcp1
    obtain ⟨i0, hi0, hz0, hz1, hz2⟩ := info_parts u8_info
    have hcp2 := fun (w : World) (d : Option Addr) (l c : Nat) => Lib.run_copy_empty_string (P := Try.prog) w 22 9 3 5 d l c ByteArray.empty Try.underlying22 (by rw [hi0]; rfl) rfl
    clear hi0 hz0 hz1 hz2
    have hnew := made_new W (zs ++ enc ByteArray.empty.size) N w.heap.size hmade.len hbel.size (by omega)
    have Hmade := Lib.hid hmade
    clear hmade
    obtain ⟨C0, hC0⟩ : ∃ C0, C0 = (rep N).toArray := ⟨_, rfl⟩
    obtain ⟨C1, hC1⟩ : ∃ C1, C1 = ((zs ++ enc ByteArray.empty.size).map (Value.int .u8)).toArray := ⟨_, rfl⟩
    rw [← hC0, ← hC1] at hcp1
    rw [← hC0] at hmk
    rw [← hC1] at hnew
    have Hnew := Lib.hid hnew
    clear hC0 hC1 hnew
    go_wp2_with fail
    go_ret
    refine ⟨_, _, rfl, ?_, hbel.alloc hbel.size _⟩
    have := Hnew.out
    simpa [nums] using this
  · have hpos : 0 < s.size := by
      rcases Nat.eq_zero_or_pos s.size with h | h
      · exact absurd (by ext1; exact Array.eq_empty_of_size_eq_zero h) hemp
      · exact h
    go_enter Try.func13, Try.ntmps13
    go_wp2_with fail
    refine (putint_made A cap zs s.size _ N HN.out (by omega) (by omega) hr hnil hlen hcap hcm).mono ?_
    rintro e W ⟨g, c, rfl, hmade, hbel⟩
    have hmk := make_rep W (N + s.size) (by omega)
    rw [Int.natCast_add] at hmk
    have hcp1 := copy_head W g N c (N + s.size) _ _ hmade (by omega)
    rw [Nat.add_sub_cancel_left] at hcp1
    have hcp2 := copy_tail W N _ s hmade.len
    have hnew := made_new W (zs ++ enc s.size ++ nums s) (N + s.size) w.heap.size (by rw [List.length_append, nums_length, ← hmade.len]) hbel.size (by omega)
    have Hmade := Lib.hid hmade
    clear hmade
    obtain ⟨C0, hC0⟩ : ∃ C0, C0 = (rep (N + s.size)).toArray := ⟨_, rfl⟩
    obtain ⟨C1, hC1⟩ : ∃ C1, C1 = ((zs ++ enc s.size).map (Value.int .u8) ++ rep s.size).toArray := ⟨_, rfl⟩
    obtain ⟨C2, hC2⟩ : ∃ C2, C2 = ((zs ++ enc s.size ++ nums s).map (Value.int .u8)).toArray := ⟨_, rfl⟩
    rw [← hC0, ← hC1] at hcp1
    rw [← hC0] at hmk
    rw [← hC1, ← hC2] at hcp2
    rw [← hC2] at hnew
    have Hnew := Lib.hid hnew
    clear hC0 hC1 hC2 hnew
    go_wp2_with fail
    go_ret
    exact ⟨_, _, rfl, Hnew.out, hbel.alloc hbel.size _⟩
end Go.Proofs.Ytlpphnhamfgmiaa
