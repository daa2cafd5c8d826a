/- Bytes of its own that a drawn region makes out of a string, beside two slices made before and the argument. -/
import Derived.Test.YtlpphnhamfgmiaaUse
import Derived.Test.YtlpphnhamfgmiaaRPut
namespace Go.Proofs.Ytlpphnhamfgmiaa
open Go.ChangeShapes Go.WideShapes Go.ChangeAt Go.RowKit

/-- the room that '[]byte(own)' takes, and the world behind it -/
def convCap (W : World) (O : ByteArray) : Nat := grownCap W O.size 0 5
def convWorld (W : World) (O : ByteArray) : World :=
  W.drew.alloc (.cells (bytesRow O (convCap W O)) 5 ((bytesRow O (convCap W O)).size, (bytesRow O (convCap W O)).size + 1))
theorem conv_own (W : World) (O : ByteArray) (n : Nat) (h : n = O.size) :
    (convert 9 22 (.string O)).run Try.prog W = .ok (.slice (some ⟨W.heap.size, 0, none⟩) n (convCap W O)) (convWorld W O) := by
  subst h; exact run_bytes_of_string W 9 22 5 O Try.underlying9 Try.underlying22 Try.underlying5

structure WK (w : World) (a : Option Addr) (cap : Nat) (zs : List Int) (gx Nx cx : Nat) (xs : List Int) (gy Ny cy : Nat) (ys : List Int) (W : World) : Prop where
  arg : Arg W a cap zs
  x : Made 0 W gx Nx cx xs
  y : Made 0 W gy Ny cy ys
  bel : Below w.heap.size w W
theorem WK.keep {w : World} {a : Option Addr} {cap : Nat} {zs : List Int} {gx Nx cx : Nat} {xs : List Int} {gy Ny cy : Nat} {ys : List Int} {W W' : World}
    (h : WK w a cap zs gx Nx cx xs gy Ny cy ys W) (hb : Below W.heap.size W W') : WK w a cap zs gx Nx cx xs gy Ny cy ys W' :=
  ⟨h.arg.keep hb, h.x.keep hb, h.y.keep hb, h.bel.trans (hb.mono h.bel.size)⟩

def WS (w : World) (a : Option Addr) (cap : Nat) (zs : List Int) (gx Nx cx : Nat) (xs : List Int) (gy Ny cy : Nat) (ys : List Int) (O X Y : ByteArray) (W : World) : Prop :=
  (convert 22 9 (.slice (some ⟨gx, 0, none⟩) Nx cx)).run Try.prog W = .ok (.string X) W ∧
  (convert 22 9 (.slice (some ⟨gy, 0, none⟩) Ny cy)).run Try.prog W = .ok (.string Y) W ∧
  (convert 22 9 (.slice a zs.length cap)).run Try.prog W = .ok (.string O) W ∧
  (convert 9 22 (.string O)).run Try.prog W = .ok (.slice (some ⟨W.heap.size, 0, none⟩) zs.length (convCap W O)) (convWorld W O) ∧
  WK w a cap zs gx Nx cx xs gy Ny cy ys W
section
variable {w : World} {a : Option Addr} {cap : Nat} {zs : List Int} {gx Nx cx : Nat} {xs : List Int} {gy Ny cy : Nat} {ys : List Int} {O X Y : ByteArray} {W : World}
theorem WK.s (h : WK w a cap zs gx Nx cx xs gy Ny cy ys W) (hO : O = strOfNums zs) (hX : X = strOfNums xs) (hY : Y = strOfNums ys) : WS w a cap zs gx Nx cx xs gy Ny cy ys O X Y W := by
  subst hO hX hY
  exact ⟨conv_row h.x.brow _ _ h.x.len, conv_row h.y.brow _ _ h.y.len, conv_row h.arg.row _ _ rfl, conv_own _ _ _ (strOfNums_size zs).symm, h⟩
theorem WS.k (h : WS w a cap zs gx Nx cx xs gy Ny cy ys O X Y W) : WK w a cap zs gx Nx cx xs gy Ny cy ys W := h.2.2.2.2
theorem below_conv (W : World) (O : ByteArray) : Below W.heap.size W (convWorld W O) := (Below.refl _ _).drew.alloc (Nat.le_refl _) _
theorem WS.conv (h : WS w a cap zs gx Nx cx xs gy Ny cy ys O X Y W) (hO : O = strOfNums zs) (hX : X = strOfNums xs) (hY : Y = strOfNums ys) : WS w a cap zs gx Nx cx xs gy Ny cy ys O X Y (convWorld W O) :=
  (h.k.keep (below_conv W O)).s hO hX hY
theorem conv_brow (W : World) (zs : List Int) (hin : InB zs) (O : ByteArray) (hO : O = strOfNums zs) : BRow (convWorld W O) (some ⟨W.heap.size, 0, none⟩) zs := by
  subst hO
  exact bytes_brow W.drew zs hin _ _
theorem conv_reads (W : World) (zs : List Int) (hin : InB zs) (O : ByteArray) (hO : O = strOfNums zs) : Reads (convWorld W O) (convWorld W O).heap.size 1 (some ⟨W.heap.size, 0, none⟩) zs.length (zs.map (Value.int .u8)) := by
  have hb := conv_brow W zs hin O hO
  refine ⟨by rw [List.length_map, Nat.mul_one], fun hn => ⟨_, rfl, by show W.heap.size < (W.heap.push _).size; simp, fun j u hj => ?_⟩⟩
  have hj' : j < zs.length := by
    have := (List.getElem?_eq_some_iff.1 hj).1
    simpa using this
  rcases hb with rfl | ⟨b, off, he, hc⟩
  · cases hj'
  · have := hc j hj'
    obtain ⟨rfl, rfl⟩ : W.heap.size = b ∧ 0 = off := by
      simpa using he
    have e : (⟨W.heap.size, 0, none⟩ : Addr).add j = ⟨W.heap.size, 0 + j, none⟩ := by unfold Addr.add; split <;> simp_all
    rw [e, this, ← hj]
    simp [List.getD, hj']
theorem WS.putint (h : WS w a cap zs gx Nx cx xs gy Ny cy ys O X Y W) (hO : O = strOfNums zs) (hX : X = strOfNums xs) (hY : Y = strOfNums ys) (n : Int) (hn0 : -9223372036854775808 ≤ n) (hn1 : n ≤ 9223372036854775807)
    (he : xs = zs ++ enc n) (hle : zs.length ≤ 300) :
    Calls Try.prog 14 #[.slice (some ⟨W.heap.size, 0, none⟩) zs.length (convCap W O), .int .i64 n] (convWorld W O) fun e w' => ∃ (g N c : Nat), e = .returned (.slice (some ⟨g, 0, none⟩) N c) ∧
      (convert 22 9 (.slice (some ⟨g, 0, none⟩) N c)).run Try.prog w' = .ok (.string X) w' ∧ WS w a cap zs gx Nx cx xs gy Ny cy ys O X Y w' := by
  have hk := h.conv hO hX hY
  refine (rputint_made _ _ zs n _ _ rfl hn0 hn1 (conv_reads W zs h.k.arg.inb O hO) (by omega)).mono ?_
  rintro e W2 ⟨g, c, rfl, hm, _, hb⟩
  refine ⟨g, _, c, rfl, ?_, (hk.k.keep hb).s hO hX hY⟩
  have := conv_row hm.brow _ c hm.len
  rw [this, ← he, hX]
theorem WS.puttext (h : WS w a cap zs gx Nx cx xs gy Ny cy ys O X Y W) (hO : O = strOfNums zs) (hX : X = strOfNums xs) (hY : Y = strOfNums ys) (s : ByteArray) (hs : s.size ≤ 300)
    (he : ys = zs ++ enc s.size ++ nums s) (hle : zs.length ≤ 300) :
    Calls Try.prog 15 #[.slice (some ⟨W.heap.size, 0, none⟩) zs.length (convCap W O), .string s] (convWorld W O) fun e w' => ∃ (g N c : Nat), e = .returned (.slice (some ⟨g, 0, none⟩) N c) ∧
      (convert 22 9 (.slice (some ⟨g, 0, none⟩) N c)).run Try.prog w' = .ok (.string Y) w' ∧ WS w a cap zs gx Nx cx xs gy Ny cy ys O X Y w' := by
  have hk := h.conv hO hX hY
  refine (rputtext_row _ _ zs s _ _ rfl (by omega) (conv_reads W zs h.k.arg.inb O hO) (by omega)).mono ?_
  rintro e W2 ⟨g, c, rfl, hm, hb⟩
  refine ⟨g, _, c, rfl, ?_, (hk.k.keep hb).s hO hX hY⟩
  have := conv_row hm.brow _ c hm.len
  rw [this, ← he, hY]
theorem WS.convU (h : ((convert 22 9 (.slice (some ⟨gx, 0, none⟩) Nx cx)).run Try.prog W = .ok (.string X) W ∧ (convert 22 9 (.slice (some ⟨gy, 0, none⟩) Ny cy)).run Try.prog W = .ok (.string Y) W ∧ (convert 22 9 (.slice a zs.length cap)).run Try.prog W = .ok (.string O) W ∧ (convert 9 22 (.string O)).run Try.prog W = .ok (.slice (some ⟨W.heap.size, 0, none⟩) zs.length (convCap W O)) (convWorld W O) ∧ WK w a cap zs gx Nx cx xs gy Ny cy ys W)) (hO : O = strOfNums zs) (hX : X = strOfNums xs) (hY : Y = strOfNums ys) : ((convert 22 9 (.slice (some ⟨gx, 0, none⟩) Nx cx)).run Try.prog (convWorld W O) = .ok (.string X) (convWorld W O) ∧ (convert 22 9 (.slice (some ⟨gy, 0, none⟩) Ny cy)).run Try.prog (convWorld W O) = .ok (.string Y) (convWorld W O) ∧ (convert 22 9 (.slice a zs.length cap)).run Try.prog (convWorld W O) = .ok (.string O) (convWorld W O) ∧ (convert 9 22 (.string O)).run Try.prog (convWorld W O) = .ok (.slice (some ⟨(convWorld W O).heap.size, 0, none⟩) zs.length (convCap (convWorld W O) O)) (convWorld (convWorld W O) O) ∧ WK w a cap zs gx Nx cx xs gy Ny cy ys (convWorld W O)) := WS.conv (w := w) h hO hX hY
theorem WS.putintU (h : ((convert 22 9 (.slice (some ⟨gx, 0, none⟩) Nx cx)).run Try.prog W = .ok (.string X) W ∧ (convert 22 9 (.slice (some ⟨gy, 0, none⟩) Ny cy)).run Try.prog W = .ok (.string Y) W ∧ (convert 22 9 (.slice a zs.length cap)).run Try.prog W = .ok (.string O) W ∧ (convert 9 22 (.string O)).run Try.prog W = .ok (.slice (some ⟨W.heap.size, 0, none⟩) zs.length (convCap W O)) (convWorld W O) ∧ WK w a cap zs gx Nx cx xs gy Ny cy ys W)) (hO : O = strOfNums zs) (hX : X = strOfNums xs) (hY : Y = strOfNums ys) (n : Int) (hn0 : -9223372036854775808 ≤ n) (hn1 : n ≤ 9223372036854775807)
    (he : xs = zs ++ enc n) (hle : zs.length ≤ 300) :
    Calls Try.prog 14 #[.slice (some ⟨W.heap.size, 0, none⟩) zs.length (convCap W O), .int .i64 n] (convWorld W O) fun e w' => ∃ (g N c : Nat), e = .returned (.slice (some ⟨g, 0, none⟩) N c) ∧
      (convert 22 9 (.slice (some ⟨g, 0, none⟩) N c)).run Try.prog w' = .ok (.string X) w' ∧ ((convert 22 9 (.slice (some ⟨gx, 0, none⟩) Nx cx)).run Try.prog w' = .ok (.string X) w' ∧ (convert 22 9 (.slice (some ⟨gy, 0, none⟩) Ny cy)).run Try.prog w' = .ok (.string Y) w' ∧ (convert 22 9 (.slice a zs.length cap)).run Try.prog w' = .ok (.string O) w' ∧ (convert 9 22 (.string O)).run Try.prog w' = .ok (.slice (some ⟨w'.heap.size, 0, none⟩) zs.length (convCap w' O)) (convWorld w' O) ∧ WK w a cap zs gx Nx cx xs gy Ny cy ys w') := WS.putint (w := w) h hO hX hY n hn0 hn1 he hle
theorem WS.puttextU (h : ((convert 22 9 (.slice (some ⟨gx, 0, none⟩) Nx cx)).run Try.prog W = .ok (.string X) W ∧ (convert 22 9 (.slice (some ⟨gy, 0, none⟩) Ny cy)).run Try.prog W = .ok (.string Y) W ∧ (convert 22 9 (.slice a zs.length cap)).run Try.prog W = .ok (.string O) W ∧ (convert 9 22 (.string O)).run Try.prog W = .ok (.slice (some ⟨W.heap.size, 0, none⟩) zs.length (convCap W O)) (convWorld W O) ∧ WK w a cap zs gx Nx cx xs gy Ny cy ys W)) (hO : O = strOfNums zs) (hX : X = strOfNums xs) (hY : Y = strOfNums ys) (s : ByteArray) (hs : s.size ≤ 300)
    (he : ys = zs ++ enc s.size ++ nums s) (hle : zs.length ≤ 300) :
    Calls Try.prog 15 #[.slice (some ⟨W.heap.size, 0, none⟩) zs.length (convCap W O), .string s] (convWorld W O) fun e w' => ∃ (g N c : Nat), e = .returned (.slice (some ⟨g, 0, none⟩) N c) ∧
      (convert 22 9 (.slice (some ⟨g, 0, none⟩) N c)).run Try.prog w' = .ok (.string Y) w' ∧ ((convert 22 9 (.slice (some ⟨gx, 0, none⟩) Nx cx)).run Try.prog w' = .ok (.string X) w' ∧ (convert 22 9 (.slice (some ⟨gy, 0, none⟩) Ny cy)).run Try.prog w' = .ok (.string Y) w' ∧ (convert 22 9 (.slice a zs.length cap)).run Try.prog w' = .ok (.string O) w' ∧ (convert 9 22 (.string O)).run Try.prog w' = .ok (.slice (some ⟨w'.heap.size, 0, none⟩) zs.length (convCap w' O)) (convWorld w' O) ∧ WK w a cap zs gx Nx cx xs gy Ny cy ys w') := WS.puttext (w := w) h hO hX hY s hs he hle
theorem WS.keepU {W' : World} (h : ((convert 22 9 (.slice (some ⟨gx, 0, none⟩) Nx cx)).run Try.prog W = .ok (.string X) W ∧ (convert 22 9 (.slice (some ⟨gy, 0, none⟩) Ny cy)).run Try.prog W = .ok (.string Y) W ∧ (convert 22 9 (.slice a zs.length cap)).run Try.prog W = .ok (.string O) W ∧ (convert 9 22 (.string O)).run Try.prog W = .ok (.slice (some ⟨W.heap.size, 0, none⟩) zs.length (convCap W O)) (convWorld W O) ∧ WK w a cap zs gx Nx cx xs gy Ny cy ys W)) (hb : Below W.heap.size W W') (hO : O = strOfNums zs) (hX : X = strOfNums xs) (hY : Y = strOfNums ys) : ((convert 22 9 (.slice (some ⟨gx, 0, none⟩) Nx cx)).run Try.prog W' = .ok (.string X) W' ∧ (convert 22 9 (.slice (some ⟨gy, 0, none⟩) Ny cy)).run Try.prog W' = .ok (.string Y) W' ∧ (convert 22 9 (.slice a zs.length cap)).run Try.prog W' = .ok (.string O) W' ∧ (convert 9 22 (.string O)).run Try.prog W' = .ok (.slice (some ⟨W'.heap.size, 0, none⟩) zs.length (convCap W' O)) (convWorld W' O) ∧ WK w a cap zs gx Nx cx xs gy Ny cy ys W') := (h.2.2.2.2.keep hb).s hO hX hY
end
end Go.Proofs.Ytlpphnhamfgmiaa
