/- The evaluator: a pure reading of the code, and that it is right; several texts in one. -/
import Derived.Orders
import Derived.Tactics
import Derived.Laws.AppendOwn
import Derived.Below
import Derived.KernelRfl
import Derived.ChangeKeysEq
import Derived.MapKept
import Derived.WideKeyRuns
import Derived.Carry
import Derived.Laws.BytesArg
/- The pure reading of operations: values, operations, code and how they are computed. -/
namespace Go.Proofs.YtidkdiooempkpaaDoor
open Go Go.RowKit

inductive PV where
  | bool (b : Bool)
  | int (k : IntKind) (n : Int)
  | str (s : List UInt8)
  | v (x : Value)
  | top
  | nilS
  | agg (cs : List PV)
  | tup (cs : List PV)
  | sl (ex : Bool) (e : Nat) (rows : List (List PV))
  | cptr (cells : List PV)
  | own (b ver lo len : Nat)
  | ptr (b ver r off : Nat)
  | fn (f : Nat) (caps : List PV)
  | fr (e : Nat) (rows : List (List PV))
  | mp (b ver : Nat)
  | nn
  | ob (o : Obj)
  deriving Inhabited

structure Blk where
  ver : Nat
  e : Nat
  flat : Bool
  rows : List (List PV)

abbrev Blks := List (Option Blk)

/-- how functions are called: with a copy of what they read, or upon the caller's own blocks -/
structure Cl where
  p : Nat → List PV → Option PV
  s : Nat → List PV → Blks → Option (PV × Blks)

structure St where
  sl : List PV
  bl : Blks

def PV.leaf : PV → Bool
  | .agg _ | .tup _ | .top | .fr _ _ => false
  | .v x => x.oneCell'
  | _ => true

/-- every reference in it is to a block below k -/
def PV.lt (k : Nat) : PV → Bool
  | .own b _ _ _ => Nat.blt b k
  | .ptr b _ _ _ => Nat.blt b k
  | .mp b _ => Nat.blt b k
  | .agg cs => ltL k cs
  | .tup cs => ltL k cs
  | .fn _ cs => ltL k cs
  | .fr _ _ => false
  | _ => true
where ltL (k : Nat) : List PV → Bool
  | [] => true
  | p :: r => PV.lt k p && ltL k r

/-- it speaks of no memory -/
def PV.noMem : PV → Bool
  | .own _ _ _ _ => false
  | .ptr _ _ _ _ => false
  | .mp _ _ => false
  | .agg cs => noMemL cs
  | .tup cs => noMemL cs
  | .fn _ cs => noMemL cs
  | .fr _ rows => noMemLL rows
  | .sl _ _ rows => rows.isEmpty
  | .cptr _ => false
  | _ => true
where
  noMemL : List PV → Bool
    | [] => true
    | p :: r => PV.noMem p && noMemL r
  noMemLL : List (List PV) → Bool
    | [] => true
    | p :: r => noMemL p && noMemLL r

def ofVal : Value → PV
  | .bool b => .bool b
  | .int k n => .int k n
  | .string s => .str s.data.toList
  | .slice none 0 0 => .nilS
  | .func (.func f) a c => if a.size = 0 ∧ c.size = 0 then .fn f [] else .v (.func (.func f) a c)
  | x => .v x

/-- package-level variables whose values are known from the beginning -/
def gtab : Nat → Option (List Value) := fun g => if Nat.beq g 0 then some [.string ⟨#[]⟩, .bool false, .bool false, .bool false, .bool false, .int .i64 0, .int .i64 0, .string ⟨#[98, 101, 103, 105, 110]⟩, .bool true, .bool false, .bool false, .bool false, .int .i64 0, .int .i64 0, .string ⟨#[101, 110, 100]⟩, .bool false, .bool false, .bool false, .bool false, .int .i64 0, .int .i64 0, .string ⟨#[109, 97, 114, 107]⟩, .bool true, .bool false, .bool false, .bool false, .int .i64 0, .int .i64 0, .string ⟨#[99, 111, 117, 110, 116]⟩, .bool true, .bool true, .bool false, .bool false, .int .i64 (-1000000000000000), .int .i64 1000000000000000, .string ⟨#[115, 97, 109, 112, 108, 101]⟩, .bool false, .bool true, .bool false, .bool true, .int .i64 1, .int .i64 1000000000000, .string ⟨#[115, 101, 110, 100]⟩, .bool false, .bool true, .bool false, .bool false, .int .i64 0, .int .i64 1000000000000000, .string ⟨#[114, 101, 99, 118]⟩, .bool false, .bool true, .bool false, .bool false, .int .i64 0, .int .i64 1000000000000000, .string ⟨#[114, 117, 110]⟩, .bool false, .bool true, .bool false, .bool false, .int .i64 0, .int .i64 63, .string ⟨#[115, 116, 111, 112]⟩, .bool false, .bool true, .bool true, .bool false, .int .i64 0, .int .i64 3, .string ⟨#[119, 97, 107, 101]⟩, .bool false, .bool true, .bool false, .bool false, .int .i64 0, .int .i64 1000000000000000, .string ⟨#[97, 108, 108, 111, 99]⟩, .bool false, .bool true, .bool true, .bool true, .int .i64 0, .int .i64 1000000000000000, .string ⟨#[102, 114, 101, 101]⟩, .bool false, .bool true, .bool false, .bool false, .int .i64 0, .int .i64 1000000000000000] else none
def gcells (g : Nat) : PV := .cptr (((gtab g).getD []).map ofVal)

def PV.cells : PV → List PV
  | .agg cs => cs
  | p => [p]

/-- a cell's kind, where cells are compared -/
inductive KK where
  | b
  | i
  | s

inductive AO where
  | t (n : Nat)
  | c (p : PV)
def AO.ev (sl : List PV) : AO → PV
  | .t n => sl.getD n .top
  | .c p => p

inductive IxK where
  | slice (e : Nat)
  | array (n e : Nat)
inductive SlK where
  | string
  | slice (e : Nat)
inductive CvK where
  | int (k : IntKind)
  | same
  | toStr
  | toBytes

inductive AOp where
  | mov (x : AO)
  | nilv (e : Nat)
  | pick (c a b : AO)
  | alloc (zero : List PV)
  | box (x : AO)
  | build (zero : List PV) (parts : List (Nat × Nat × AO))
  | bslice (own : Bool) (e : Nat) (zero : List PV) (n : Nat) (parts : List (Nat × AO))
  | load (n : Nat) (agg : Bool) (a : AO)
  | store (n : Nat) (a x : AO)
  | nilck (x : AO)
  | bin (op : BinOp) (x y : AO)
  | beq (neg : Bool) (x y : AO)
  | beqA (neg : Bool) (ks : List KK) (x y : AO)
  | un (op : UnOp) (x : AO)
  | conv (k : CvK) (x : AO)
  | make (e by_ : Nat) (zero : List PV) (l c : AO)
  | slc (k : SlK) (x : AO) (lo hi mx : Option AO)
  | faddr (off : Nat) (a : AO)
  | fld (off n : Nat) (agg : Bool) (x : AO)
  | iaddr (k : IxK) (x i : AO)
  | idxA (n e : Nat) (agg : Bool) (x i : AO)
  | idxS (x i : AO)
  | ext (x : AO) (i : Nat)
  | len (x : AO)
  | lenS (x : AO)
  | lenM (x : AO)
  | lenC (n : Nat)
  | capN (x : AO)
  | appz (e by_ : Nat) (zero : List PV) (s x : AO)
  | alloca (e n : Nat) (zero : List PV)
  | makez (e by_ : Nat) (zero : List PV) (l c : AO)
  | asl (e n : Nat) (x : AO) (hi : Option AO)
  | append (e by_ : Nat) (s x : AO)
  | copy (e : Nat) (d s : AO)
  | clr (e : Nat) (zero : List PV) (d : AO)
  | min (xs : List AO)
  | max (xs : List AO)
  | call (own : Bool) (f : Nat) (args : List AO)
  | calld (own : Bool) (f : AO) (args : List AO)
  | mkfn (f : Nat) (caps : List AO)
  | callS (f : Nat) (args : List AO)
  | calldS (f : AO) (args : List AO)
  | mkmap (h : Option AO)
  | mget (ok : Bool) (ks : List KK) (ag : Bool) (zero : PV) (m k : AO)
  | mset (ks : List KK) (ag : Bool) (m k v : AO)
  | mdel (ks : List KK) (ag : Bool) (m k : AO)
  | nilq (s neg : Bool) (x : AO)

def eq1 : KK → PV → PV → Option Bool
  | .b, .bool a, .bool b => some (a == b)
  | .i, .int k a, .int k' b => if k = k' then some (a == b) else none
  | .s, .str a, .str b => some (a == b)
  | _, _, _ => none
def eqL : List KK → List PV → List PV → Option Bool
  | [], [], [] => some true
  | c :: ks, a :: as, b :: bs => match eq1 c a b, eqL ks as bs with
    | some x, some y => some (x && y)
    | _, _ => none
  | _, _, _ => none

/-- a block that is a map: its rows are pairs of a key and a value -/
def mapE : Nat := 1000000000
/-- a block whose object is known as it stands: its one row holds it -/
def iterE : Nat := 1000000001
def getB (bl : Blks) (b ver : Nat) : Option Blk :=
  match bl[b]? with
  | some (some x) => if x.ver = ver ∧ x.e < mapE then some x else none
  | _ => none
def getM (bl : Blks) (b ver : Nat) : Option Blk :=
  match bl[b]? with
  | some (some x) => if x.ver = ver ∧ x.e = mapE then some x else none
  | _ => none

/-- a key's cells -/
def keyC (ag : Bool) : PV → Option (List PV)
  | .agg cs => if ag then some cs else none
  | .int k n => if ag then none else some [.int k n]
  | .str s => if ag then none else some [.str s]
  | .bool b => if ag then none else some [.bool b]
  | _ => none
def mapRows (bl : Blks) : PV → Option (List (List PV))
  | .mp b ver => match getM bl b ver with
    | some x => some x.rows
    | none => none
  | .v (.map none) => some []
  | _ => none
/-- where a key stands -/
def mfind (ks : List KK) (ag : Bool) (key : List PV) : List (List PV) → Nat → Option (Option (Nat × PV))
  | [], _ => some none
  | [kp, v] :: r, i => match keyC ag kp with
    | some cs => match eqL ks key cs with
      | some true => some (some (i, v))
      | some false => mfind ks ag key r (i + 1)
      | none => none
    | none => none
  | _ :: _, _ => none

def mapO {α β : Type} (f : α → Option β) : List α → Option (List β)
  | [] => some []
  | a :: r => match f a with
    | some b => match mapO f r with
      | some bs => some (b :: bs)
      | none => none
    | none => none

/-- a value lent: what it refers to is written out -/
def cls : Nat → Blks → PV → Option PV
  | 0, _, _ => none
  | n + 1, bl, p => if p.lt 0 then some p else match p with
    | .own b ver lo len => match getB bl b ver with
      | some x => if lo + len ≤ x.rows.length then
          match (if x.flat then some x.rows else mapO (mapO (cls n bl)) x.rows) with
          | some rs => some (.sl false x.e ((rs.drop lo).take len))
          | none => none
        else none
      | none => none
    | .ptr b ver r off => match getB bl b ver with
      | some x => match x.rows[r]? with
        | some row => match (if x.flat then some row else mapO (cls n bl) row) with
          | some row => some (.cptr (row.drop off))
          | none => none
        | none => none
      | none => none
    | .agg cs => match mapO (cls n bl) cs with | some cs => some (.agg cs) | none => none
    | .tup cs => match mapO (cls n bl) cs with | some cs => some (.tup cs) | none => none
    | .fn f cs => match mapO (cls n bl) cs with | some cs => some (.fn f cs) | none => none
    | _ => none

/-- the fresh slices of a result, as blocks -/
def impB : PV → List Blk
  | .fr e rows => [⟨rows.length, e, true, rows⟩]
  | .agg cs => impBL cs
  | .tup cs => impBL cs
  | _ => []
where impBL : List PV → List Blk
  | [] => []
  | p :: r => impB p ++ impBL r
/-- a result whose fresh slices are the blocks from k on -/
def impV : Nat → PV → PV
  | k, .fr _ rows => .own k rows.length 0 rows.length
  | k, .agg cs => .agg (impVL k cs)
  | k, .tup cs => .tup (impVL k cs)
  | _, p => p
where impVL : Nat → List PV → List PV
  | _, [] => []
  | k, p :: r => impV k p :: impVL (k + (impB p).length) r

/-- a result whose fresh slices are never written -/
def unfr : PV → PV
  | .fr e rows => .sl false e rows
  | .agg cs => .agg (unfrL cs)
  | .tup cs => .tup (unfrL cs)
  | p => p
where unfrL : List PV → List PV
  | [] => []
  | p :: r => unfr p :: unfrL r

/-- the blocks that a result hands out whole (g: or cut behind) -/
def frIds (g : Bool) (bl : Blks) : PV → List Nat
  | .own b ver lo len => match getB bl b ver with
    | some x => if lo = 0 ∧ len = x.rows.length then [b] else if lo = 0 ∧ len = 0 then [b] else if g = true ∧ lo = 0 ∧ len ≤ x.rows.length then [b] else []
    | none => []
  | .agg cs => frIdsL g bl cs
  | .tup cs => frIdsL g bl cs
  | _ => []
where frIdsL (g : Bool) (bl : Blks) : List PV → List Nat
  | [] => []
  | p :: r => frIds g bl p ++ frIdsL g bl r

def hasN (b : Nat) : List Nat → Bool
  | [] => false
  | c :: r => Nat.beq b c || hasN b r
def nodupN : List Nat → Bool
  | [] => true
  | c :: r => !hasN c r && nodupN r

def kill (ids : List Nat) (bl : Blks) : Blks := ids.foldl (fun bl b => bl.set b none) bl

def clsFuel : Nat := 20

/-- a result, with its whole blocks written out as fresh slices -/
def expo (g : Bool) (bl bl0 : Blks) (ids : List Nat) : PV → Option PV
  | .own b ver lo len => if hasN b ids then match getB bl b ver with
      | some x => match (if x.flat then some x.rows else mapO (mapO (cls clsFuel bl0)) x.rows) with
        | some rs => if lo = 0 ∧ len = x.rows.length then some (.fr x.e rs) else if lo = 0 ∧ len = 0 then some (.fr x.e []) else if g = true ∧ lo = 0 ∧ len ≤ x.rows.length then some (.fr x.e (rs.take len)) else none
        | none => none
      | none => none
    else cls clsFuel bl0 (.own b ver lo len)
  | .agg cs => match expoL g bl bl0 ids cs with | some cs => some (.agg cs) | none => none
  | .tup cs => match expoL g bl bl0 ids cs with | some cs => some (.tup cs) | none => none
  | p => cls clsFuel bl0 p
where expoL (g : Bool) (bl bl0 : Blks) (ids : List Nat) : List PV → Option (List PV)
  | [] => some []
  | p :: r => match expo g bl bl0 ids p with
    | some q => match expoL g bl bl0 ids r with
      | some qs => some (q :: qs)
      | none => none
    | none => none

def expoG (g : Bool) (bl : Blks) (p : PV) : Option PV :=
  let ids := frIds g bl p
  if nodupN ids then expo g bl (kill ids bl) ids p else none
def expoAll (bl : Blks) (p : PV) : Option PV :=
  match expoG true bl p with
  | some r => some r
  | none => expoG false bl p

def rowsOf (e0 : Nat) (bl : Blks) : PV → Option (List (List PV))
  | .sl _ e rows => if e = e0 then some rows else none
  | .nilS => some []
  | .own b ver lo len => match getB bl b ver with
    | some x => if lo + len ≤ x.rows.length ∧ x.e = e0 then some ((x.rows.drop lo).take len) else none
    | none => none
  | _ => none

def fillP : List PV → List (Nat × Nat × PV) → Option (List PV)
  | cs, [] => some cs
  | cs, (off, n, p) :: r =>
    let q := p.cells
    if q.length = n ∧ off + n ≤ cs.length ∧ q.all PV.leaf = true then fillP (cs.take off ++ q ++ cs.drop (off + n)) r else none

def binP (op : BinOp) : PV → PV → Option PV
  | .int k a, .int k' b => match op with
    | .shl => if 0 ≤ b then some (.int k (k.wrap (a * 2 ^ (Nat.min b.toNat k.bits)))) else none
    | .shr => if 0 ≤ b then some (.int k (a.fdiv (2 ^ (Nat.min b.toNat k.bits)))) else none
    | op => if k = k' then match op with
      | .add => some (.int k (k.wrap (a + b)))
      | .sub => some (.int k (k.wrap (a - b)))
      | .mul => some (.int k (k.wrap (a * b)))
      | .quo => if b = 0 then none else some (.int k (k.wrap (a.tdiv b)))
      | .rem => if b = 0 then none else some (.int k (a.tmod b))
      | .and => some (.int k (k.wrap (BitVec.ofInt k.bits a &&& BitVec.ofInt k.bits b).toNat))
      | .or => some (.int k (k.wrap (BitVec.ofInt k.bits a ||| BitVec.ofInt k.bits b).toNat))
      | .xor => some (.int k (k.wrap (BitVec.ofInt k.bits a ^^^ BitVec.ofInt k.bits b).toNat))
      | .andNot => some (.int k (k.wrap (BitVec.ofInt k.bits a &&& ~~~ (BitVec.ofInt k.bits b)).toNat))
      | .eql => some (.bool (a == b))
      | .neq => some (.bool (a != b))
      | .lss => some (.bool (decide (a < b)))
      | .leq => some (.bool (decide (a ≤ b)))
      | .gtr => some (.bool (decide (a > b)))
      | .geq => some (.bool (decide (a ≥ b)))
      | _ => none
      else none
  | .str a, .str b => match op with
    | .add => if a.length + b.length ≤ 9223372036854775807 then some (.str (a ++ b)) else none
    | .eql => some (.bool (a == b))
    | .neq => some (.bool (!(a == b)))
    | .lss => some (.bool (Op.bytesLess a b))
    | .leq => some (.bool (Op.bytesLess a b || a == b))
    | .gtr => some (.bool (!(Op.bytesLess a b || a == b)))
    | .geq => some (.bool (!Op.bytesLess a b))
    | _ => none
  | _, _ => none

def unP (op : UnOp) : PV → Option PV
  | .int k a => match op with
    | .neg => some (.int k (k.wrap (0 - a)))
    | .xor => some (.int k (k.wrap (BitVec.ofInt k.bits (if k.signed then -1 else k.max) ^^^ BitVec.ofInt k.bits a).toNat))
    | _ => none
  | .bool b => match op with
    | .not => some (.bool (!b))
    | _ => none
  | _ => none

def bytesOfRows : List (List PV) → Option (List UInt8)
  | [] => some []
  | [.int .u8 n] :: r => match bytesOfRows r with
    | some bs => some (UInt8.ofNat n.toNat :: bs)
    | none => none
  | _ => none
def rowsOfBytes (s : List UInt8) : List (List PV) := s.map fun b => [.int .u8 (b.toNat : Int)]

def optI (sl : List PV) (d : Nat) : Option AO → Option Int
  | none => some d
  | some x => match x.ev sl with
    | .int _ n => some n
    | _ => none

def minP : PV → PV → Option PV
  | .int k x, .int _ y => some (.int k (if y < x then y else x))
  | _, _ => none
def maxP : PV → PV → Option PV
  | .int k x, .int _ y => some (.int k (if x < y then y else x))
  | _, _ => none
def foldP (f : PV → PV → Option PV) : PV → List PV → Option PV
  | p, [] => some p
  | p, q :: r => match f p q with
    | some s => foldP f s r
    | none => none

/-- arguments of which nothing was lent -/
def thinL : List PV → List PV → Bool
  | p :: ps, q :: qs => (p.lt 0 || q.noMem) && thinL ps qs
  | _, _ => true

def callP (call : Nat → List PV → Option PV) (bl : Blks) (own : Bool) (f : Nat) (args : List PV) : Option (PV × List Blk) :=
  if PV.lt.ltL 0 args then match call f args with
    | some r => if own then some (impV bl.length r, impB r) else if (unfr r).lt 0 then some (unfr r, []) else none
    | none => none
  else match mapO (cls clsFuel bl) args with
    | some qs => match call f qs with
      | some r => if (r.noMem || thinL args qs) = true then if own then some (impV bl.length r, impB r) else if (unfr r).lt 0 then some (unfr r, []) else none else none
      | none => none
    | none => none

def scal (agg : Bool) (cs : List PV) : Option PV :=
  if agg then some (.agg cs) else match cs with
    | [p] => some p
    | _ => none

/-- the operations that change no block -/
def evPur (call : Cl) (sl : List PV) (bl : Blks) : AOp → Option (PV × List Blk)
  | .mov x => some (x.ev sl, [])
  | .nilv e => some (.own bl.length 0 0 0, [⟨0, e, true, []⟩])
  | .pick c a b => match c.ev sl with
    | .bool t => some (if t then a.ev sl else b.ev sl, [])
    | _ => none
  | .alloc z => some (.ptr bl.length 1 0 0, [⟨1, z.length, PV.lt.ltL 0 z, [z]⟩])
  | .makez e by_ z l c => match l.ev sl, c.ev sl with
    | .int _ l, .int _ c => if 0 ≤ l ∧ l = c ∧ c ≤ 140737488355328 ∧ c * by_ ≤ 140737488355328 then some (.sl true e (List.replicate l.toNat z), []) else none
    | _, _ => none
  | .alloca e n z => some (.ptr bl.length n 0 0, [⟨n, e, PV.lt.ltL 0 z, chunks e n z⟩])
  | .asl e n x hi => match x.ev sl with
    | .ptr b ver r off => match getB bl b ver with
      | some k => match optI sl n hi with
        | some h => if r = 0 ∧ off = 0 ∧ k.e = e ∧ k.rows.length = n ∧ 0 < n ∧ 0 ≤ h ∧ h ≤ n then some (.own b ver 0 h.toNat, []) else none
        | none => none
      | none => none
    | _ => none
  | .box x => if (x.ev sl).cells.all PV.leaf = true ∧ (x.ev sl).cells.length < mapE then some (.ptr bl.length 1 0 0, [⟨1, (x.ev sl).cells.length, PV.lt.ltL 0 (x.ev sl).cells, [(x.ev sl).cells]⟩]) else none
  | .build z parts => match fillP z (parts.map fun q => (q.1, q.2.1, q.2.2.ev sl)) with
    | some cs => some (.agg cs, [])
    | none => none
  | .load n agg a => match a.ev sl with
    | .ptr b ver r off => match getB bl b ver with
      | some x => match x.rows[r]? with
        | some row => if off + n ≤ row.length then match scal agg ((row.drop off).take n) with
            | some p => some (p, [])
            | none => none
          else none
        | none => none
      | none => none
    | .cptr cells => if n ≤ cells.length then match scal agg (cells.take n) with
        | some p => some (p, [])
        | none => none
      else none
    | _ => none
  | .nilck x => match x.ev sl with
    | .ptr b ver r off => match getB bl b ver with
      | some k => match k.rows[r]? with
        | some _ => some (.ptr b ver r off, [])
        | none => none
      | none => none
    | .cptr cells => some (.cptr cells, [])
    | .fn f caps => some (.fn f caps, [])
    | _ => none
  | .bin op x y => match binP op (x.ev sl) (y.ev sl) with
    | some p => some (p, [])
    | none => none
  | .beq neg x y => match x.ev sl, y.ev sl with
    | .bool a, .bool b => some (.bool (if neg then !(a == b) else a == b), [])
    | _, _ => none
  | .beqA neg ks x y => match x.ev sl, y.ev sl with
    | .agg ps, .agg qs => match eqL ks ps qs with
      | some b => some (.bool (if neg then !b else b), [])
      | none => none
    | _, _ => none
  | .nilq s neg x => match s, x.ev sl with
    | true, .sl _ _ (_ :: _) => some (.bool neg, [])
    | true, .v (.slice none 0 0) => some (.bool (!neg), [])
    | true, .own b ver _ (_ + 1) => match getB bl b ver with
      | some _ => some (.bool neg, [])
      | none => none
    | false, .v .nilIface => some (.bool (!neg), [])
    | false, .v (.iface _ _) => some (.bool neg, [])
    | false, .nn => some (.bool neg, [])
    | _, _ => none
  | .un op x => match unP op (x.ev sl) with
    | some p => some (p, [])
    | none => none
  | .conv k x => match k, x.ev sl with
    | .int k, .int _ n => some (.int k (k.wrap n), [])
    | .same, .str s => some (.str s, [])
    | .toStr, p => match rowsOf 1 bl p with
      | some rows => match bytesOfRows rows with
        | some s => some (.str s, [])
        | none => none
      | none => none
    | _, _ => none
  | .faddr off a => match a.ev sl with
    | .ptr b ver r o => match getB bl b ver with
      | some k => match k.rows[r]? with
        | some _ => some (.ptr b ver r (o + off), [])
        | none => none
      | none => none
    | .cptr cells => some (.cptr (cells.drop off), [])
    | _ => none
  | .fld off n agg x => match x.ev sl with
    | .agg cs => if off + n ≤ cs.length then match scal agg ((cs.drop off).take n) with
        | some p => some (p, [])
        | none => none
      else none
    | _ => none
  | .iaddr k x i => match i.ev sl with
    | .int _ i => if 0 ≤ i then match k with
      | .slice e0 => match x.ev sl with
        | .sl _ e rows => if e = e0 then match rows[i.toNat]? with
          | some row => some (.cptr row, [])
          | none => none
          else none
        | .own b ver lo len => match getB bl b ver with
          | some k => if i.toNat < len ∧ lo + len ≤ k.rows.length ∧ k.e = e0 then some (.ptr b ver (lo + i.toNat) 0, []) else none
          | none => none
        | _ => none
      | .array n e => if i.toNat < n then match x.ev sl with
        | .ptr b ver r o => match getB bl b ver with
          | some k => if k.e = e ∧ o = 0 then match k.rows[r + i.toNat]? with
              | some _ => some (.ptr b ver (r + i.toNat) 0, [])
              | none => none
            else match k.rows[r]? with
            | some _ => some (.ptr b ver r (o + i.toNat * e), [])
            | none => none
          | none => none
        | .cptr cells => some (.cptr (cells.drop (i.toNat * e)), [])
        | _ => none
        else none
      else none
    | _ => none
  | .idxS x i => match x.ev sl, i.ev sl with
    | .str s, .int _ i => if 0 ≤ i then match s[i.toNat]? with
        | some b => some (.int .u8 (b.toNat : Int), [])
        | none => none
      else none
    | _, _ => none
  | .idxA n e agg x i => match x.ev sl, i.ev sl with
    | .agg cs, .int _ i => if 0 ≤ i ∧ i.toNat < n ∧ i.toNat * e + e ≤ cs.length then match scal agg ((cs.drop (i.toNat * e)).take e) with
        | some p => some (p, [])
        | none => none
      else none
    | _, _ => none
  | .ext x i => match x.ev sl with
    | .tup cs => match cs[i]? with
      | some p => some (p, [])
      | none => none
    | _ => none
  | .lenM x => match mapRows bl (x.ev sl) with
    | some rows => some (.int .i64 rows.length, [])
    | none => none
  | .lenS x => match x.ev sl with
    | .str s => some (.int .i64 s.length, [])
    | _ => none
  | .len x => match x.ev sl with
    | .sl _ _ rows => some (.int .i64 rows.length, [])
    | .nilS => some (.int .i64 0, [])
    | .own b ver _ len => match getB bl b ver with
      | some _ => some (.int .i64 len, [])
      | none => none
    | _ => none
  | .lenC n => some (.int .i64 n, [])
  | .capN x => match x.ev sl with
    | .nilS => some (.int .i64 0, [])
    | _ => none
  | .min xs => match xs.map (·.ev sl) with
    | p :: r => match foldP minP p r with
      | some p => some (p, [])
      | none => none
    | [] => none
  | .max xs => match xs.map (·.ev sl) with
    | p :: r => match foldP maxP p r with
      | some p => some (p, [])
      | none => none
    | [] => none
  | .slc k x lo hi mx => match k with
    | .string => match x.ev sl, optI sl 0 lo, mx with
      | .str s, some l, none => match optI sl s.length hi with
        | some h => if 0 ≤ l ∧ l ≤ h ∧ h ≤ s.length then some (.str ((s.take h.toNat).drop l.toNat), []) else none
        | none => none
      | _, _, _ => none
    | .slice e0 => match x.ev sl, optI sl 0 lo with
      | .sl ex e rows, some l => if e = e0 then match optI sl rows.length hi with
        | some h => match mx with
          | none => if 0 ≤ l ∧ l ≤ h ∧ h ≤ rows.length then some (.sl (ex && h == rows.length) e ((rows.take h.toNat).drop l.toNat), []) else none
          | some mx => match mx.ev sl with
            | .int _ m => if 0 ≤ l ∧ l ≤ h ∧ h ≤ m ∧ m ≤ rows.length then some (.sl (h == m) e ((rows.take h.toNat).drop l.toNat), []) else none
            | _ => none
        | none => none
        else none
      | .nilS, some l => match optI sl 0 hi, optI sl 0 mx with
        | some h, some m => if l = 0 ∧ h = 0 ∧ m = 0 then some (.nilS, []) else none
        | _, _ => none
      | .own b ver lo0 len, some l => match getB bl b ver with
        | some k => if k.e = e0 then match optI sl len hi with
          | some h => match mx with
            | none => if 0 ≤ l ∧ l ≤ h ∧ h ≤ len then some (.own b ver (lo0 + l.toNat) (h.toNat - l.toNat), []) else none
            | some mx => match mx.ev sl with
              | .int _ m => if l = 0 ∧ h = 0 ∧ m = 0 then some (.nilS, []) else none
              | _ => none
          | none => none
          else none
        | none => none
      | _, _ => none
  | .bslice own e z n parts => match fillP ((List.replicate n z).flatten) (parts.map fun q => (q.1 * e, e, q.2.ev sl)) with
    | some cs => if cs.all PV.leaf then
        if own || !PV.lt.ltL 0 cs then some (.own bl.length n 0 n, [⟨n, e, PV.lt.ltL 0 cs, chunks e n cs⟩])
        else some (.sl true e (chunks e n cs), []) else none
    | none => none
  | .make e by_ z l c => match l.ev sl, c.ev sl with
    | .int _ l, .int _ c => if 0 ≤ l ∧ l ≤ c ∧ c ≤ 140737488355328 ∧ c * by_ ≤ 140737488355328 then
        some (.own bl.length l.toNat 0 l.toNat, [⟨l.toNat, e, PV.lt.ltL 0 z, List.replicate l.toNat z⟩]) else none
    | _, _ => none
  | .appz e by_ z s x => match s.ev sl, x.ev sl with
    | .nilS, .int _ n => if 0 < n ∧ n ≤ 140737488355328 ∧ n * by_ ≤ 140737488355328 then
        some (.own bl.length n.toNat 0 n.toNat, [⟨n.toNat, e, PV.lt.ltL 0 z, List.replicate n.toNat z⟩]) else none
    | _, _ => none
  | .call own f args => callP call.p bl own f (args.map (·.ev sl))
  | .calld own f args => match f.ev sl with
    | .fn g caps => callP call.p bl own g (args.map (·.ev sl) ++ caps)
    | _ => none
  | .mkfn f caps => some (.fn f (caps.map (·.ev sl)), [])
  | .mkmap h => match h with
    | none => some (.mp bl.length 0, [⟨0, mapE, true, []⟩])
    | some x => match x.ev sl with
      | .int _ _ => some (.mp bl.length 0, [⟨0, mapE, true, []⟩])
      | _ => none
  | .mget ok ks ag z m k => match keyC ag (k.ev sl), mapRows bl (m.ev sl) with
    | some kc, some rows => match eqL ks kc kc with
      | some true => match mfind ks ag kc rows 0 with
        | some (some (_, v)) => some (if ok then .tup [v, .bool true] else v, [])
        | some none => some (if ok then .tup [z, .bool false] else z, [])
        | none => none
      | _ => none
    | _, _ => none
  | _ => none
where chunks (e : Nat) : Nat → List PV → List (List PV)
  | 0, _ => []
  | n + 1, cs => cs.take e :: chunks e n (cs.drop e)

/-- the operations that change a block -/
def evEff (call : Cl) (sl : List PV) (bl : Blks) : AOp → Option (PV × Blks)
  | .store n a x => match a.ev sl with
    | .ptr b ver r off => match getB bl b ver with
      | some k => match k.rows[r]? with
        | some row =>
          let q := (x.ev sl).cells
          if q.length = n ∧ off + n ≤ row.length ∧ q.all PV.leaf = true then
            some (.top, bl.set b (some ⟨k.ver, k.e, k.flat && PV.lt.ltL 0 q, k.rows.set r (row.take off ++ q ++ row.drop (off + n))⟩)) else none
        | none => none
      | none => none
    | _ => none
  | .append e by_ s x => match (match x.ev sl with | .str t => if e = 1 then some (rowsOfBytes t) else none | p => rowsOf e bl p) with
    | some news => match s.ev sl with
      | .nilS => if news.length * by_ ≤ 140737488355328 ∧ news.length ≤ 140737488355328 then
          some (.own bl.length news.length 0 news.length, bl ++ [some ⟨news.length, e, news.all (PV.lt.ltL 0), news⟩]) else none
      | .sl true e' rows => if e' = e ∧ 0 < news.length ∧ (rows.length + news.length) * by_ ≤ 140737488355328 ∧ rows.length + news.length ≤ 140737488355328 then
          some (.own bl.length (rows.length + news.length) 0 (rows.length + news.length), bl ++ [some ⟨rows.length + news.length, e, news.all (PV.lt.ltL 0), rows ++ news⟩]) else none
      | .own b ver lo len => match getB bl b ver with
        | some k => if k.e = e ∧ lo = 0 ∧ len = k.rows.length ∧ (len + news.length) * by_ ≤ 140737488355328 ∧ len + news.length ≤ 140737488355328 then
            some (.own b (k.ver + news.length) 0 (len + news.length), bl.set b (some ⟨k.ver + news.length, e, k.flat && news.all (PV.lt.ltL 0), k.rows ++ news⟩))
          else if k.e = e ∧ lo + len + news.length ≤ k.rows.length then
            some (.own b ver lo (len + news.length), bl.set b (some ⟨k.ver, e, k.flat && news.all (PV.lt.ltL 0), k.rows.take (lo + len) ++ news ++ k.rows.drop (lo + len + news.length)⟩))
          else none
        | none => none
      | _ => none
    | none => none
  | .copy e d s => match d.ev sl, (match s.ev sl with | .str t => if e = 1 then some (rowsOfBytes t) else none | p => rowsOf e bl p) with
    | .own b ver lo len, some news => match getB bl b ver with
      | some k =>
        let n := Nat.min news.length len
        if lo + len ≤ k.rows.length ∧ k.e = e then
          some (.int .i64 n, bl.set b (some ⟨k.ver, k.e, k.flat && news.all (PV.lt.ltL 0), k.rows.take lo ++ news.take n ++ k.rows.drop (lo + n)⟩)) else none
      | none => none
    | _, _ => none
  | .clr e z d => match d.ev sl with
    | .own b ver lo len => match getB bl b ver with
      | some k => if lo + len ≤ k.rows.length ∧ k.e = e then
          some (.top, bl.set b (some ⟨k.ver, k.e, k.flat && PV.lt.ltL 0 z, k.rows.take lo ++ List.replicate len z ++ k.rows.drop (lo + len)⟩)) else none
      | none => none
    | _ => none
  | .mset ks ag m k v => match keyC ag (k.ev sl), m.ev sl with
    | some kc, .mp b ver => match getM bl b ver with
      | some x => match eqL ks kc kc with
        | some true => match mfind ks ag kc x.rows 0 with
          | some (some (i, _)) => some (.top, bl.set b (some ⟨x.ver, x.e, x.flat && PV.lt.ltL 0 [k.ev sl, v.ev sl], x.rows.set i [k.ev sl, v.ev sl]⟩))
          | some none => some (.top, bl.set b (some ⟨x.ver, x.e, x.flat && PV.lt.ltL 0 [k.ev sl, v.ev sl], x.rows ++ [[k.ev sl, v.ev sl]]⟩))
          | none => none
        | _ => none
      | none => none
    | _, _ => none
  | .mdel ks ag m k => match keyC ag (k.ev sl), m.ev sl with
    | some kc, .mp b ver => match getM bl b ver with
      | some x => match eqL ks kc kc with
        | some true => match mfind ks ag kc x.rows 0 with
          | some (some (i, _)) => some (.top, bl.set b (some ⟨x.ver, x.e, x.flat, x.rows.eraseIdx i⟩))
          | some none => some (.top, bl.set b (some ⟨x.ver, x.e, x.flat, x.rows⟩))
          | none => none
        | _ => none
      | none => none
    | _, _ => none
  | .callS f args => match call.s f (args.map (·.ev sl)) bl with
    | some (p, bl') => if bl.length ≤ bl'.length then some (p, bl') else none
    | none => none
  | .calldS f args => match f.ev sl with
    | .fn g caps => match call.s g (args.map (·.ev sl) ++ caps) bl with
      | some (p, bl') => if bl.length ≤ bl'.length then some (p, bl') else none
      | none => none
    | _ => none
  | _ => none

def AOp.isEff : AOp → Bool
  | .store _ _ _ => true
  | .append _ _ _ _ => true
  | .copy _ _ _ => true
  | .clr _ _ _ => true
  | .callS _ _ => true
  | .calldS _ _ => true
  | .mset _ _ _ _ _ => true
  | .mdel _ _ _ _ => true
  | _ => false

structure AOper where
  dst : Option Nat
  guard : Option (Nat × Bool)
  op : AOp

def putP (sl : List PV) (d : Option Nat) (p : PV) : List PV :=
  match d with
  | some d => sl.set d p
  | none => sl

def evOp (call : Cl) (st : St) (o : AOper) : Option St :=
  if o.op.isEff then match evEff call st.sl st.bl o.op with
    | some (p, bl) => some ⟨putP st.sl o.dst p, bl⟩
    | none => none
  else match evPur call st.sl st.bl o.op with
    | some (p, ns) => some ⟨putP st.sl o.dst p, st.bl ++ ns.map some⟩
    | none => none

def evOne (call : Cl) (st : St) (o : AOper) : Option St :=
  match o.guard with
  | none => evOp call st o
  | some (s, want) => match st.sl.getD s .top with
    | .bool b => if b = want then evOp call st o else some ⟨putP st.sl o.dst (.v (.tuple #[])), st.bl⟩
    | .v (.tuple _) => some ⟨putP st.sl o.dst (.v (.tuple #[])), st.bl⟩
    | _ => none

def evOps (call : Cl) : List AOper → St → Option St
  | [], st => some st
  | o :: r, st => match evOne call st o with
    | some st => evOps call r st
    | none => none

/-- the block that a value refers to -/
def rdP : PV → List Nat
  | .ptr b _ _ _ => [b]
  | .own b _ _ _ => [b]
  | _ => []
/-- the blocks that an operation looks at which makes none and changes none -/
def softRd (sl : List PV) : AOp → Option (List Nat)
  | .load _ _ a => some (rdP (a.ev sl))
  | .faddr _ a => some (rdP (a.ev sl))
  | .len x => some (rdP (x.ev sl))
  | .iaddr _ x _ => some (rdP (x.ev sl))
  | .bslice own e z n parts => if own then none else match fillP ((List.replicate n z).flatten) (parts.map fun q => (q.1 * e, e, q.2.ev sl)) with
    | some cs => if PV.lt.ltL 0 cs then some [] else none
    | none => none
  | _ => none
/-- the blocks that an operation changes -/
def effTg (sl : List PV) : AOp → Option (List Nat)
  | .store _ a _ => match a.ev sl with
    | .ptr b _ _ _ => some [b]
    | _ => none
  | .append _ _ s _ => match s.ev sl with
    | .own b _ _ _ => some [b]
    | .nilS => some []
    | .sl true _ _ => some []
    | _ => none
  | .copy _ d _ => match d.ev sl with
    | .own b _ _ _ => some [b]
    | _ => none
  | .clr _ _ d => match d.ev sl with
    | .own b _ _ _ => some [b]
    | _ => none
  | .mset _ _ m _ _ => match m.ev sl with
    | .mp b _ => some [b]
    | _ => none
  | .mdel _ _ m _ => match m.ev sl with
    | .mp b _ => some [b]
    | _ => none
  | _ => none
/-- certainly the same -/
def PV.same : PV → PV → Bool
  | .bool a, .bool b => a == b
  | .int k a, .int j b => decide (k = j) && a == b
  | .str a, .str b => a == b
  | .top, .top => true
  | .nilS, .nilS => true
  | .nn, .nn => true
  | .agg a, .agg b => sameL a b
  | .fn f a, .fn g b => Nat.beq f g && sameL a b
  | .sl x e r, .sl y f s => (x == y) && Nat.beq e f && sameLL r s
  | .own a b c d, .own x y z u => Nat.beq a x && Nat.beq b y && Nat.beq c z && Nat.beq d u
  | .ptr a b c d, .ptr x y z u => Nat.beq a x && Nat.beq b y && Nat.beq c z && Nat.beq d u
  | .mp a b, .mp x y => Nat.beq a x && Nat.beq b y
  | .v .nilIface, .v .nilIface => true
  | .v (.slice none 0 0), .v (.slice none 0 0) => true
  | .v (.map none), .v (.map none) => true
  | .v (.pointer none), .v (.pointer none) => true
  | _, _ => false
where
  sameL : List PV → List PV → Bool
    | [], [] => true
    | p :: r, q :: s => PV.same p q && sameL r s
    | _, _ => false
  sameLL : List (List PV) → List (List PV) → Bool
    | [], [] => true
    | p :: r, q :: s => sameL p q && sameLL r s
    | _, _ => false
def sameB : Option (Option Blk) → Option (Option Blk) → Bool
  | some none, some none => true
  | some (some x), some (some y) => Nat.beq x.ver y.ver && Nat.beq x.e y.e && (x.flat == y.flat) && PV.same.sameLL x.rows y.rows
  | _, _ => false
/-- the blocks that may have been changed -/
def chgN (bl bl' : Blks) : Nat → List Nat
  | 0 => []
  | n + 1 => if sameB bl[n]? bl'[n]? then chgN bl bl' n else n :: chgN bl bl' n
def tgOf (st st' : St) : AOp → Option (List Nat)
  | .callS _ _ => some (chgN st.bl st'.bl st.bl.length)
  | .calldS _ _ => some (chgN st.bl st'.bl st.bl.length)
  | op => effTg st.sl op
/-- along a region: what the operations looked at that may change places with one that changes a block, and what is changed -/
def softGo (call : Cl) (soft : List Nat) : Nat → List AOper → St → Option (List Nat × List Nat)
  | _, [], _ => some ([], [])
  | i, o :: r, st => match evOne call st o with
    | some st' => match softGo call soft (i + 1) r st' with
      | some (rd, tg) => if o.op.isEff then match tgOf st st' o.op with
          | some ts => some (rd, ts ++ tg)
          | none => none
        else if hasN i soft then match o.guard, softRd st.sl o.op with
          | none, some rs => some (rs ++ rd, tg)
          | _, _ => none
        else some (rd, tg)
      | none => none
    | none => none
def softChk (call : Cl) (soft : List Nat) (ops : List AOper) (st : St) : Bool :=
  match softGo call soft 0 ops st with
  | some (rd, tg) => rd.all fun b => Nat.blt b st.bl.length && !hasN b tg
  | none => false

inductive AC where
  | skip
  | reg (ops : List AOper)
  | regd (soft : List Nat) (ops : List AOper)
  | seq (a b : AC)
  | cond (c : AO) (a b : AC)
  | block (id : Nat) (a : AC)
  | loop (keep : List Nat) (a : AC)
  | exit (id : Nat)
  | ret
  | stuck

inductive Out where
  | normal (st : St)
  | exit (id : Nat) (st : St)
  | ret (st : St)

def forget (keep : List Nat) : Nat → List PV → List PV
  | _, [] => []
  | i, p :: r => (if hasN i keep then p else .top) :: forget keep (i + 1) r

def blksLt (k : Nat) : Blks → Bool
  | [] => true
  | none :: r => blksLt k r
  | some x :: r => (x.flat || x.rows.all (PV.lt.ltL k)) && blksLt k r

/-- the first place from which on no block is needed -/
def trimT (sl : List PV) (bl : Blks) : Nat → Nat → Nat
  | 0, t => t
  | f + 1, t => if PV.lt.ltL t sl && blksLt t (bl.take t) then t else trimT sl bl f (t + 1)
def trimB (sl : List PV) (bl : Blks) (t : Nat) : St := if PV.lt.ltL t sl && blksLt t (bl.take t) then ⟨sl, bl.take t⟩ else ⟨sl, bl⟩
def norm (keep : List Nat) (n0 : Nat) (st : St) : St :=
  trimB (forget keep 0 st.sl) st.bl (trimT (forget keep 0 st.sl) st.bl (st.bl.length - n0) n0)

def evLoop (body : St → Option Out) (keep : List Nat) (n0 : Nat) : Nat → St → Option Out
  | 0, _ => none
  | n + 1, st => match body (norm keep n0 st) with
    | some (.normal st) => evLoop body keep n0 n st
    | r => r

def evCode (call : Cl) (n : Nat) : AC → St → Option Out
  | .skip, st => some (.normal st)
  | .reg ops, st => match evOps call ops st with
    | some st => some (.normal st)
    | none => none
  | .regd soft ops, st => match evOps call ops st with
    | some st' => if softChk call soft ops st = true then some (.normal st') else none
    | none => none
  | .seq a b, st => match evCode call n a st with
    | some (.normal st) => evCode call n b st
    | r => r
  | .cond c a b, st => match c.ev st.sl with
    | .bool t => if t then evCode call n a st else evCode call n b st
    | _ => none
  | .block id a, st => match evCode call n a st with
    | some (.exit id' st) => if id' = id then some (.normal st) else some (.exit id' st)
    | r => r
  | .loop keep a, st => evLoop (evCode call n a) keep st.bl.length n st
  | .exit id, st => some (.exit id st)
  | .ret, st => some (.ret st)
  | .stuck, _ => none

/-- where a result lies: in a slot, or in cells that a slot points to -/
inductive RV where
  | t (n : Nat)
  | c (a n : Nat) (agg : Bool)

/-- what may be given of a function -/
inductive XT where
  | p (x : List PV → Option PV)
  | s (x : List PV → Blks → Option (PV × Blks))

structure AFn where
  np : Nat
  nt : Nat
  res : List RV
  code : AC
  ext : Option XT

def loadP (bl : Blks) (n : Nat) (agg : Bool) : PV → Option PV
  | .ptr b ver r off => match getB bl b ver with
    | some x => match x.rows[r]? with
      | some row => if off + n ≤ row.length then scal agg ((row.drop off).take n) else none
      | none => none
    | none => none
  | .cptr cells => if n ≤ cells.length then scal agg (cells.take n) else none
  | _ => none

def RV.get (st : St) : RV → Option PV
  | .t n => some (st.sl.getD n .top)
  | .c a n agg => loadP st.bl n agg (st.sl.getD a .top)

def resO (st : St) : List RV → Option PV
  | [r] => r.get st
  | rs => match mapO (RV.get st) rs with
    | some ps => some (.tup ps)
    | none => none

def endP (res : List RV) : Option Out → Option PV
  | some (.normal st) => match resO st res with | some p => expoAll st.bl p | none => none
  | some (.ret st) => match resO st res with | some p => expoAll st.bl p | none => none
  | _ => none

/-- the end of a call upon the caller's blocks: what is new and not needed is left -/
def endT (n0 : Nat) (p : PV) (bl : Blks) : PV × Blks := (p, (norm [0] n0 ⟨[p], bl⟩).bl)
def endS (res : List RV) (n0 : Nat) : Option Out → Option (PV × Blks)
  | some (.normal st) => match resO st res with | some p => some (endT n0 p st.bl) | none => none
  | some (.ret st) => match resO st res with | some p => some (endT n0 p st.bl) | none => none
  | _ => none

def evF (D : Nat → Option AFn) : Nat → Cl
  | 0 => ⟨fun _ _ => none, fun _ _ _ => none⟩
  | n + 1 => ⟨fun f args => match D f with
      | some fc => match fc.ext with
        | some (.p x) => x args
        | some (.s _) => none
        | none => if args.length = fc.np then endP fc.res (evCode (evF D n) n fc.code ⟨args ++ List.replicate (fc.nt - fc.np) .top, []⟩) else none
      | none => none,
    fun f args bl => match D f with
      | some fc => match fc.ext with
        | some (.s x) => x args bl
        | some (.p _) => none
        | none => if args.length = fc.np then endS fc.res bl.length (evCode (evF D n) n fc.code ⟨args ++ List.replicate (fc.nt - fc.np) .top, bl⟩) else none
      | none => none⟩

end Go.Proofs.YtidkdiooempkpaaDoor
/- The program's operations, turned into those of the pure reading. -/
namespace Go.Proofs.YtidkdiooempkpaaDoor
open Go Go.RowKit

def digV : Operand → Option AO
  | .tmp t => some (.t t)
  | .const v => some (.c (ofVal v))
  | .func f => some (.c (.fn f []))
  | .global _ => none

/-- an address: also that of a known variable -/
def digA : Operand → Option AO
  | .global g => match gtab g with
    | some _ => some (.c (gcells g))
    | none => none
  | x => digV x

def digL : List Operand → Option (List AO)
  | [] => some []
  | x :: r => match digV x, digL r with
    | some a, some aa => some (a :: aa)
    | _, _ => none

def digM : Option Operand → Option (Option AO)
  | none => some none
  | some x => match digV x with
    | some a => some (some a)
    | none => none

def zeroP (P : Program) (t : TypeId) : Option (List PV) :=
  match P.info? t with
  | some i => match i.zero with
    | some z => if z.cells.size = i.size ∧ (z.cells.toList.map ofVal).all PV.leaf = true ∧ PV.lt.ltL 0 (z.cells.toList.map ofVal) = true ∧ z.cells.size < 1000000000 then some (z.cells.toList.map ofVal) else none
    | none => none
  | none => none

def aggB (P : Program) (t : TypeId) : Option Bool :=
  match P.underlying t with
  | some (.struct _) => some true
  | some (.array _ _) => some true
  | some _ => some false
  | none => none

def elemP (P : Program) (t : TypeId) : Option (TypeId × TypeInfo) :=
  match P.underlying t with
  | some (.slice e) => match P.info? e with
    | some i => if i.size < 1000000000 then some (e, i) else none
    | none => none
  | _ => none

def digParts (P : Program) (fs : Array Field) : List (Nat × Operand) → Option (List (Nat × Nat × AO))
  | [] => some []
  | (i, x) :: r => match fs[i]? with
    | some f => match P.info? f.type, digV x, digParts P fs r with
      | some ti, some a, some aa => some ((f.offset, ti.size, a) :: aa)
      | _, _, _ => none
    | none => none

def digEls : List (Nat × Operand) → Option (List (Nat × AO))
  | [] => some []
  | (i, x) :: r => match digV x, digEls r with
    | some a, some aa => some ((i, a) :: aa)
    | _, _ => none

def isNilC : Operand → Bool
  | .const (.slice none 0 0) => true
  | _ => false

def ownD (own : List Nat) : Option Nat → Bool
  | some d => hasN d own
  | none => false

def digCall (own : List Nat) (d : Option Nat) (f : Operand) (args : List AO) : Option AOp :=
  match f with
  | .func g => if hasN (1000000 + g) own then some (.callS g args) else some (.call (ownD own d) g args)
  | .tmp t => if hasN 8000000 own then some (.calldS (.t t) args) else some (.calld (ownD own d) (.t t) args)
  | _ => none

/-- the kinds of the cells of a type whose values can be compared cell by cell -/
def flatF (P : Program) (f : TypeId → Option (List KK)) : List Field → Nat → Option (List KK)
  | [], _ => some []
  | x :: r, off => if x.name ≠ "_" ∧ x.offset = off then match f x.type, P.info? x.type with
      | some l, some i => if i.size = l.length ∧ 0 < i.size then match flatF P f r (off + l.length) with
          | some rs => some (l ++ rs)
          | none => none
        else none
      | _, _ => none
    else none
def flatT (P : Program) : Nat → TypeId → Option (List KK)
  | 0, _ => none
  | d + 1, t => match P.underlying t with
    | some .bool => some [.b]
    | some (.int _) => some [.i]
    | some .string => some [.s]
    | some (.array n e) => match flatT P d e, P.info? e with
      | some l, some i => if i.size = l.length then some (List.replicate n l).flatten else none
      | _, _ => none
    | some (.struct fs) => if P.stoodInHeld t then none else flatF P (flatT P d) fs.toList 0
    | _ => none

def digBuiltin (P : Program) (b : Builtin) (args : List AO) (tys : List TypeId) : Option AOp :=
  match b, args, tys with
  | .len, [x], [t] => match P.underlying t with
    | some .string => some (.lenS x)
    | some (.map _ _) => some (.lenM x)
    | some (.slice _) => some (.len x)
    | some (.array n _) => some (.lenC n)
    | _ => none
  | .cap, [x], [t] => match P.underlying t with
    | some (.slice _) => some (.capN x)
    | _ => none
  | .append, [s, x], [t, u] => match elemP P t with
    | some (e, i) => match i.zero with
      | some z => if z.cells.size = i.size ∧ 0 < i.size then match P.underlying u with
          | some (.slice _) => some (.append i.size i.bytes s x)
          | some .string => some (.append i.size i.bytes s x)
          | some (.int _) => match zeroP P e with
            | some zp => some (.appz i.size i.bytes zp s x)
            | none => none
          | _ => none
        else none
      | none => none
    | none => none
  | .copy, [d, s], [t, _] => match elemP P t with
    | some (_, i) => if 0 < i.size then some (.copy i.size d s) else none
    | none => none
  | .clear, [d], [t] => match elemP P t with
    | some (e, i) => if 0 < i.size then match zeroP P e with
        | some z => some (.clr i.size z d)
        | none => none
      else none
    | none => none
  | .delete, [m, k], [t, _] => match P.underlying t with
    | some (.map K _) => match flatT P 8 K, aggB P K with
      | some ks, some ag => some (.mdel ks ag m k)
      | _, _ => none
    | _ => none
  | .min, xs, _ => some (.min xs)
  | .max, xs, _ => some (.max xs)
  | _, _, _ => none

/-- a type's zero value -/
def zeroS (P : Program) (t : TypeId) : Option PV :=
  match P.info? t with
  | some i => match i.zero with
    | some (.agg cs) => some (.agg (cs.toList.map ofVal))
    | some v => some (ofVal v)
    | none => none
  | none => none

def digSet (P : Program) (t : TypeId) (x i y : Operand) : Option AOp :=
  match P.underlying t, digV x, digV i, digV y with
  | some (.map K _), some m, some k, some v => match flatT P 8 K, aggB P K with
    | some ks, some ag => some (.mset ks ag m k v)
    | _, _ => none
  | _, _, _, _ => none

/-- is an operand the nil of a slice's or an interface's type? -/
def nilT (P : Program) (t : TypeId) (y : Operand) : Option Bool :=
  match y, P.underlying t with
  | .const (.slice none 0 0), some (.slice _) => some true
  | .const .nilIface, some (.interface _) => some false
  | _, _ => none
theorem nilT_slice {P : Program} {t : TypeId} {y : Operand} (h : nilT P t y = some true) : y = .const (.slice none 0 0) ∧ ∃ e, P.underlying t = some (.slice e) := by
  unfold nilT at h
  split at h
  · exact ⟨rfl, _, by assumption⟩
  · cases h
  · cases h
theorem nilT_iface {P : Program} {t : TypeId} {y : Operand} (h : nilT P t y = some false) : y = .const .nilIface ∧ ∃ ms, P.underlying t = some (.interface ms) := by
  unfold nilT at h
  split at h
  · cases h
  · exact ⟨rfl, _, by assumption⟩
  · cases h

/-- an array of its own, element by element -/
def digArr (P : Program) (t : TypeId) (z : List PV) : Option AOp :=
  match P.underlying t with
  | some (.array n e) => match P.info? e with
    | some i => if 0 < n ∧ 0 < i.size ∧ z.length = n * i.size ∧ i.size < 1000000000 ∧ n ≤ 1000000 then some (.alloca i.size n z) else none
    | none => none
  | _ => none
def digOp (P : Program) (own : List Nat) (o : Oper) : Option AOp :=
  match o.op with
  | .move x => match digV x with | some a => some (.mov a) | none => none
  | .assign x => if isNilC x then (if hasN 4000000 own then some (.mov (.c (.v (.slice none 0 0)))) else match elemP P o.type with
      | some (_, i) => some (.nilv i.size)
      | none => none)
    else match digV x with | some a => some (.mov a) | none => none
  | .pick c a b => match digV c, digV a, digV b with | some c, some a, some b => some (.pick c a b) | _, _, _ => none
  | .alloc t => match zeroP P t with
    | some z => if hasN 3000000 own then (match digArr P t z with | some a => some a | none => some (.alloc z)) else some (.alloc z)
    | none => none
  | .box _ x => match digV x with | some a => some (.box a) | none => none
  | .build t ps => match P.underlying t with
    | some (.struct fs) => match zeroP P t, digParts P fs ps.toList with
      | some z, some aa => if fs.all (fun f => (P.info? f.type).isSome) then some (.build z aa) else none
      | _, _ => none
    | some (.array _ e) => match zeroP P t, P.info? e, digEls ps.toList with
      | some z, some i, some aa => some (.build z (aa.map fun q => (q.1 * i.size, i.size, q.2)))
      | _, _, _ => none
    | _ => none
  | .buildSlice t n ps => match elemP P t with
    | some (e, i) => match zeroP P e, digEls ps.toList with
      | some z, some aa => if n * i.size ≤ 16777216 ∧ 0 < i.size then some (.bslice (ownD own o.dst) i.size z n aa) else none
      | _, _ => none
    | none => none
  | .load t a => match digA a, aggB P t, P.info? t with | some a, some g, some i => if g = true ∨ i.size = 1 then some (.load i.size g a) else none | _, _, _ => none
  | .store t a x => match digV a, digV x, P.info? t with | some a, some x, some i => some (.store i.size a x) | _, _, _ => none
  | .nilCheck x => match digV x with | some a => some (.nilck a) | none => none
  | .binOp op t x y _ => match nilT P t y with
    | some s => (match op, digV x with | .eql, some a => some (.nilq s false a) | .neq, some a => some (.nilq s true a) | _, _ => none)
    | none => match digV x, digV y, P.underlying t with
      | some a, some b, some .bool => (match op with | .eql => some (.beq false a b) | .neq => some (.beq true a b) | _ => none)
      | some a, some b, some _ => if aggB P t = some true then match flatT P 8 t with
          | some ks => if P.eqGuardType P.depth t then none else (match op with | .eql => some (.beqA false ks a b) | .neq => some (.beqA true ks a b) | _ => none)
          | none => none
        else some (.bin op a b)
      | _, _, _ => none
  | .unOp op _ x => match digV x with | some a => some (.un op a) | none => none
  | .convert s d x => match P.underlying s, P.underlying d, digV x with
    | some (.int _), some (.int k), some a => some (.conv (.int k) a)
    | some .string, some .string, some a => some (.conv .same a)
    | some (.slice e), some .string, some a => match P.underlying e with
      | some (.int .u8) => some (.conv .toStr a)
      | _ => none
    | _, _, _ => none
  | .makeSlice t l c => match elemP P t, digV l, digV c with
    | some (e, i), some l, some c => match zeroP P e with
      | some z => if 0 < i.size then (if ownD own o.dst then some (.make i.size i.bytes z l c) else some (.makez i.size i.bytes z l c)) else none
      | none => none
    | _, _, _ => none
  | .slice t x lo hi mx => match P.underlying t, digV x, digM lo, digM hi, digM mx with
    | some .string, some x, some lo, some hi, some none => some (.slc .string x lo hi none)
    | some (.slice e), some x, some lo, some hi, some mx => match P.info? e with
      | some i => if mx.isSome && hi.isNone then none else some (.slc (.slice i.size) x lo hi mx)
      | none => none
    | some (.array n e), some x, some none, some hi, some none => match P.info? e with
      | some i => some (.asl i.size n x hi)
      | none => none
    | _, _, _, _, _ => none
  | .fieldAddr t x f => match P.underlying t, digV x with
    | some (.struct fs), some a => match fs[f]? with
      | some fd => match P.info? fd.type with
        | some i => if i.size = 0 then none else some (.faddr fd.offset a)
        | none => none
      | none => none
    | _, _ => none
  | .field t x f => match P.underlying t, digV x with
    | some (.struct fs), some a => match fs[f]? with
      | some fd => match aggB P fd.type, P.info? fd.type with
        | some g, some i => if g = true ∨ i.size = 1 then some (.fld fd.offset i.size g a) else none
        | _, _ => none
      | none => none
    | _, _ => none
  | .indexAddr t x i => match P.underlying t, digA x, digV i with
    | some (.slice e), some a, some i => match P.info? e with
      | some ti => some (.iaddr (.slice ti.size) a i)
      | none => none
    | some (.array n e), some a, some i => match P.info? e with
      | some ti => some (.iaddr (.array n ti.size) a i)
      | none => none
    | _, _, _ => none
  | .index t x i => match P.underlying t, digV x, digV i with
    | some .string, some a, some i => some (.idxS a i)
    | some (.array n e), some a, some i => match aggB P e, P.info? e with
      | some g, some ti => if g = true ∨ ti.size = 1 then some (.idxA n ti.size g a i) else none
      | _, _ => none
    | _, _, _ => none
  | .makeMap t r => match P.underlying t, digM r with
    | some (.map _ _), some r => some (.mkmap r)
    | _, _ => none
  | .lookup t x i ok => match P.underlying t, digV x, digV i with
    | some (.map K E), some m, some k => match flatT P 8 K, aggB P K, zeroS P E with
      | some ks, some ag, some zp => some (.mget ok ks ag zp m k)
      | _, _, _ => none
    | _, _, _ => none
  | .mapUpdate t x i y => digSet P t x i y
  | .insert t x i y => digSet P t x i y
  | .extract x i => match digV x with | some a => some (.ext a i) | none => none
  | .call c => match digL c.args.toList with
    | some args => match c.callee with
      | .value f => digCall own o.dst f args
      | .builtin b => digBuiltin P b args c.argTypes.toList
      | _ => none
    | none => none
  | .makeFunc f first caps => match f, first.toList, digL caps.toList with
    | .func g, [], some caps => some (.mkfn g caps)
    | _, _, _ => none
  | _ => none

def digOper (P : Program) (own : List Nat) (ops : Array Oper) (o : Oper) : Option AOper :=
  match digOp P own o with
  | some a => match o.guard with
    | none => some ⟨o.dst, none, a⟩
    | some (j, want) => match (ops[j]?).bind (·.dst) with
      | some s => some ⟨o.dst, some (s, want), a⟩
      | none => none
  | none => none

def digOps (P : Program) (own : List Nat) (ops : Array Oper) : List Oper → Option (List AOper)
  | [] => some []
  | o :: r => match digOper P own ops o, digOps P own ops r with
    | some a, some aa => some (a :: aa)
    | _, _ => none

/-- the slots that an operation looks at -/
def looks (o : Oper) (a : AOper) : List Nat :=
  (o.op.operands.toList.filterMap fun | .tmp t => some t | _ => none) ++ (match a.guard with | some (s, _) => [s] | none => [])

def memK : AOp → Bool
  | .nilq s _ _ => s
  | .mov _ | .pick _ _ _ | .bin _ _ _ | .beq _ _ _ | .beqA _ _ _ _ | .un _ _ | .fld _ _ _ _ | .idxA _ _ _ _ _ | .idxS _ _ | .ext _ _ | .lenC _ | .lenS _ | .min _ | .max _ | .mkfn _ _ | .build _ _ => false
  | .conv k _ => (match k with | .int _ => false | .same => false | _ => true)
  | _ => true

/-- what touches memory and may not change places with what changes it -/
def hardK (soft : List Nat) (j : Nat) (op : AOp) : Bool := memK op && (op.isEff || !hasN j soft)

/-- in a region that draws its order: what reads or writes one slot is in the text's order, and so is what touches memory with what changes it -/
def pairOk (soft : List Nat) (bef : Nat) (i j : Nat) (x y : Oper × AOper) : Bool :=
  Nat.testBit bef i ||
  ((match x.1.dst with | some d => !hasN d (looks y.1 y.2) && !(match y.1.dst with | some e => Nat.beq d e | none => false) | none => true) &&
   (match y.1.dst with | some d => !hasN d (looks x.1 x.2) | none => true) &&
   !(x.2.op.isEff && hardK soft j y.2.op) && !(hardK soft i x.2.op && y.2.op.isEff))

def pairsFrom (soft : List Nat) (x : Oper × AOper) (i : Nat) : Nat → List (Oper × AOper) → List Nat → Bool
  | _, [], _ => true
  | j, y :: r, b :: bs => pairOk soft b i j x y && pairsFrom soft x i (j + 1) r bs
  | _, _ :: _, [] => false
def pairsGo (soft : List Nat) : Nat → List (Oper × AOper) → List Nat → Bool
  | _, [], _ => true
  | i, x :: r, bs => pairsFrom soft x i (i + 1) r bs.tail && pairsGo soft (i + 1) r bs.tail

/-- what comes before an operation, as bits -/
def befOne (acc : List Nat) : List Edge → Nat
  | [] => 0
  | e :: es => if Region.binds .any e then (2 ^ e.on ||| acc.getD e.on 0) ||| befOne acc es else befOne acc es
def befAll : List Oper → List Nat → List Nat
  | [], acc => acc
  | o :: r, acc => befAll r (acc ++ [befOne acc o.after.toList])

def edgesOk : Nat → List Oper → Bool
  | _, [] => true
  | i, o :: r => o.after.toList.all (fun e => !Region.binds .any e || Nat.blt e.on i) && edgesOk (i + 1) r

def drawOk (P : Program) (soft : List Nat) (ops : Array Oper) (aa : List AOper) : Bool :=
  P.follows .mixedOrders && pairsGo soft 0 (ops.toList.zip aa) (befAll ops.toList []) && edgesOk 0 ops.toList

def softK : AOp → Bool
  | .load _ _ _ => true
  | .faddr _ _ => true
  | .len _ => true
  | .iaddr _ _ _ => true
  | .bslice own _ _ _ _ => !own
  | _ => false
/-- the operations that may change places with one that changes a block -/
def softs (ops : Array Oper) (aa : List AOper) : List Nat :=
  let bs := befAll ops.toList []
  (List.range aa.length).filter fun j => match aa[j]? with
    | some o => softK o.op && o.guard.isNone && (List.range aa.length).any fun e => match aa[e]? with
      | some q => q.op.isEff && (if e < j then !Nat.testBit (bs.getD j 0) e else if j < e then !Nat.testBit (bs.getD e 0) j else false)
      | none => false
    | none => false

def digCode (P : Program) (own : List Nat) : Code → List (List Nat) → Option (AC × List (List Nat))
  | .skip, ks => some (.skip, ks)
  | .region _ ops draw, ks => match digOps P own ops ops.toList with
    | some aa => if draw then if drawOk P [] ops aa then some (.reg aa, ks) else if drawOk P (softs ops aa) ops aa then some (.regd (softs ops aa) aa, ks) else some (.stuck, ks) else some (.reg aa, ks)
    | none => some (.stuck, ks)
  | .seq a b, ks => match digCode P own a ks with
    | some (a, ks) => match digCode P own b ks with
      | some (b, ks) => some (.seq a b, ks)
      | none => none
    | none => none
  | .cond c a b, ks => match digV c with
    | some c => match digCode P own a ks with
      | some (a, ks) => match digCode P own b ks with
        | some (b, ks) => some (.cond c a b, ks)
        | none => none
      | none => none
    | none => some (.stuck, ks)
  | .block id a, ks => match digCode P own a ks with
    | some (a, ks) => some (.block id a, ks)
    | none => none
  | .loop a, ks => match digCode P own a ks.tail with
    | some (a, ks') => some (.loop (ks.headD []) a, ks')
    | none => none
  | .exit id, ks => some (.exit id, ks)
  | .ret, ks => some (.ret, ks)
  | _, ks => some (.stuck, ks)

def digRes (P : Program) : List ResultVar → Option (List RV)
  | [] => some []
  | .tmp t :: r => match digRes P r with
    | some ts => some (.t t :: ts)
    | none => none
  | .cell a t :: r => match aggB P t, P.info? t, digRes P r with
    | some g, some i, some ts => if g = true ∨ i.size = 1 then some (.c a i.size g :: ts) else none
    | _, _, _ => none

def digFn (P : Program) (own : List Nat) (ks : List (List Nat)) (fn : Func) : Option AFn :=
  match fn.body with
  | some c => match digCode P own c ks, digRes P fn.results.toList with
    | some (c, _), some res => if fn.name = "runtime.NumGoroutine" then none else some ⟨fn.params.size + fn.nfree, fn.ntmps, res, c, none⟩
    | _, _ => none
  | none => none

def lookP : List (Nat × AFn) → Nat → Option AFn
  | [], _ => none
  | (i, c) :: r, f => if Nat.beq i f then some c else lookP r f
theorem lookP_mem : ∀ {l : List (Nat × AFn)} {f : Nat} {c : AFn}, lookP l f = some c → (f, c) ∈ l
  | [], f, c, h => by simp [lookP] at h
  | (i, c0) :: r, f, c, h => by
    simp only [lookP] at h
    split at h
    · rename_i hb
      cases h
      rw [Nat.eq_of_beq_eq_true hb]
      simp
    · exact List.mem_cons_of_mem _ (lookP_mem h)
theorem all_cons {α : Type} {Q : α → Prop} {a : α} {l : List α} (h : Q a) (hl : ∀ x ∈ l, Q x) : ∀ x ∈ a :: l, Q x := fun x hx => by
  rcases List.mem_cons.1 hx with rfl | hx
  · exact h
  · exact hl x hx
theorem all_nil {α : Type} {Q : α → Prop} : ∀ x ∈ ([] : List α), Q x := fun x hx => by simp at hx

end Go.Proofs.YtidkdiooempkpaaDoor
/- What a value of the pure reading says of a value of the program. -/
namespace Go.Proofs.YtidkdiooempkpaaDoor
open Go Go.RowKit

/-- cells that are known from the beginning -/
class Bs where
  cell : Nat → Nat → Option Value
  obj : Nat → Option Obj
  gl : ∀ g vs j v, gtab g = some vs → vs[j]? = some v → cell g j = some v
theorem gl0 {c : Nat → Nat → Option Value} (hn : ∀ g, gtab g = none) : ∀ g vs j v, gtab g = some vs → vs[j]? = some v → c g j = some v := fun g _ _ _ h => by rw [hn] at h; cases h

structure Info where
  g : Nat
  ver : Nat
  e : Nat
  n : Nat
  cap : Nat
  virt : Bool

structure Mem where
  cell : Nat → Nat → Option Value
  blk : Nat → Option Info

def OwnVal (i : Info) (lo len : Nat) (v : Value) : Prop :=
  (len = 0 ∧ i.n ≤ lo ∧ ∃ a, v = .slice a 0 0) ∨
  (i.virt = false ∧ ∃ cap, v = .slice (some ⟨i.g, lo * i.e, none⟩) len cap ∧ len ≤ cap ∧ i.n ≤ lo + cap ∧ lo + cap ≤ i.cap)

inductive Rep (m : Mem) : Nat → PV → Value → Prop
  | bool {k b} : Rep m k (.bool b) (.bool b)
  | int {k j n} : Rep m k (.int j n) (.int j n)
  | str {k s} : Rep m k (.str s.data.toList) (.string s)
  | v {k x} : Rep m k (.v x) x
  | top {k x} : Rep m k .top x
  | nn {k t x} : Rep m k .nn (.iface t x)
  | nilS {k a} : Rep m k .nilS (.slice a 0 0)
  | agg {k ps vs} : ps.length = vs.size → (∀ i p, ps[i]? = some p → Rep m k p (vs.getD i undef)) → Rep m k (.agg ps) (.agg vs)
  | tup {k ps vs} : ps.length = vs.size → (∀ i p, ps[i]? = some p → Rep m k p (vs.getD i undef)) → Rep m k (.tup ps) (.tuple vs)
  | slz {k ex e a cap} : cap ≤ maxLen → (ex = true → cap = 0) → Rep m k (.sl ex e []) (.slice a 0 cap)
  | sl {k ex e rows b off cap} {vals : Nat → Nat → Value} : rows.length ≤ cap → cap ≤ maxLen → (ex = true → cap = rows.length) → (∀ r ∈ rows, r.length = e) →
      (∀ i j row p, rows[i]? = some row → row[j]? = some p → m.cell b (off + i * e + j) = some (vals i j)) →
      (∀ i j row p, rows[i]? = some row → row[j]? = some p → Rep m 0 p (vals i j)) → Rep m k (.sl ex e rows) (.slice (some ⟨b, off, none⟩) rows.length cap)
  | cptr {k cells b off} {vals : Nat → Value} : (∀ j p, cells[j]? = some p → m.cell b (off + j) = some (vals j)) → (∀ j p, cells[j]? = some p → Rep m 0 p (vals j)) →
      Rep m k (.cptr cells) (.pointer (some ⟨b, off, none⟩))
  | own {k b ver lo len v i} : b < k → m.blk b = some i → ver ≤ i.ver → v.oneCell' = true → (i.ver = ver → OwnVal i lo len v) → Rep m k (.own b ver lo len) v
  | ptr {k b ver r off v i} : b < k → m.blk b = some i → ver ≤ i.ver → v.oneCell' = true → (i.ver = ver → i.virt = false → v = .pointer (some ⟨i.g, r * i.e + off, none⟩)) → Rep m k (.ptr b ver r off) v
  | mp {k b ver v i} : b < k → m.blk b = some i → ver ≤ i.ver → v.oneCell' = true → (i.ver = ver → v = .map (some i.g)) → Rep m k (.mp b ver) v
  | fn {k f ps vs} : ps.length = vs.size → (∀ i p, ps[i]? = some p → Rep m k p (vs.getD i undef)) → Rep m k (.fn f ps) (.func (.func f) #[] vs)

structure MLe (k : Nat) (m m' : Mem) : Prop where
  cell : ∀ b o v, m.cell b o = some v → m'.cell b o = some v
  blk : ∀ b i, b < k → m.blk b = some i → ∃ i', m'.blk b = some i' ∧ (i' = i ∨ i.ver < i'.ver)

theorem MLe.refl (k : Nat) (m : Mem) : MLe k m m := ⟨fun _ _ _ h => h, fun _ i _ h => ⟨i, h, .inl rfl⟩⟩
theorem MLe.trans {k : Nat} {a b c : Mem} (h : MLe k a b) (h' : MLe k b c) : MLe k a c :=
  ⟨fun x o v e => h'.cell _ _ _ (h.cell _ _ _ e), fun x i hx e => by
    obtain ⟨i1, e1, h1⟩ := h.blk x i hx e
    obtain ⟨i2, e2, h2⟩ := h'.blk x i1 hx e1
    refine ⟨i2, e2, ?_⟩
    rcases h1 with rfl | h1 <;> rcases h2 with rfl | h2
    · exact .inl rfl
    · exact .inr h2
    · exact .inr h1
    · exact .inr (Nat.lt_trans h1 h2)⟩
theorem MLe.le {k j : Nat} {m m' : Mem} (h : MLe k m m') (hj : j ≤ k) : MLe j m m' := ⟨h.cell, fun b i hb => h.blk b i (Nat.lt_of_lt_of_le hb hj)⟩

theorem Rep.mono {m m' : Mem} {k : Nat} {p : PV} {v : Value} (h : Rep m k p v) : MLe k m m' → Rep m' k p v := by
  induction h with
  | bool => exact fun _ => .bool
  | int => exact fun _ => .int
  | str => exact fun _ => .str
  | v => exact fun _ => .v
  | top => exact fun _ => .top
  | nn => exact fun _ => .nn
  | nilS => exact fun _ => .nilS
  | agg hl _ ih => exact fun hm => .agg hl fun i p hp => ih i p hp hm
  | tup hl _ ih => exact fun hm => .tup hl fun i p hp => ih i p hp hm
  | fn hl _ ih => exact fun hm => .fn hl fun i p hp => ih i p hp hm
  | slz h1 h2 => exact fun _ => .slz h1 h2
  | sl h1 h2 h3 h4 hc _ ih => exact fun hm => .sl h1 h2 h3 h4 (fun i j row p hr hp => hm.cell _ _ _ (hc i j row p hr hp)) (fun i j row p hr hp => ih i j row p hr hp (hm.le (Nat.zero_le _)))
  | cptr hc _ ih => exact fun hm => .cptr (fun j p hp => hm.cell _ _ _ (hc j p hp)) (fun j p hp => ih j p hp (hm.le (Nat.zero_le _)))
  | own hb hi hv h1 ho =>
    intro hm
    obtain ⟨i', hi', hh⟩ := hm.blk _ _ hb hi
    rcases hh with rfl | hh
    · exact .own hb hi' hv h1 ho
    · exact .own hb hi' (by omega) h1 (fun e => by omega)
  | ptr hb hi hv h1 ho =>
    intro hm
    obtain ⟨i', hi', hh⟩ := hm.blk _ _ hb hi
    rcases hh with rfl | hh
    · exact .ptr hb hi' hv h1 ho
    · exact .ptr hb hi' (by omega) h1 (fun e => by omega)
  | mp hb hi hv h1 ho =>
    intro hm
    obtain ⟨i', hi', hh⟩ := hm.blk _ _ hb hi
    rcases hh with rfl | hh
    · exact .mp hb hi' hv h1 ho
    · exact .mp hb hi' (by omega) h1 (fun e => by omega)

theorem Rep.up {m : Mem} {k k' : Nat} {p : PV} {v : Value} (h : Rep m k p v) : k ≤ k' → Rep m k' p v := by
  induction h with
  | bool => exact fun _ => .bool
  | int => exact fun _ => .int
  | str => exact fun _ => .str
  | v => exact fun _ => .v
  | top => exact fun _ => .top
  | nn => exact fun _ => .nn
  | nilS => exact fun _ => .nilS
  | agg hl _ ih => exact fun hm => .agg hl fun i p hp => ih i p hp hm
  | tup hl _ ih => exact fun hm => .tup hl fun i p hp => ih i p hp hm
  | fn hl _ ih => exact fun hm => .fn hl fun i p hp => ih i p hp hm
  | slz h1 h2 => exact fun _ => .slz h1 h2
  | sl h1 h2 h3 h4 hc hr _ => exact fun _ => .sl h1 h2 h3 h4 hc hr
  | cptr hc hr _ => exact fun _ => .cptr hc hr
  | own hb hi hv h1 ho => exact fun hk => .own (Nat.lt_of_lt_of_le hb hk) hi hv h1 ho
  | ptr hb hi hv h1 ho => exact fun hk => .ptr (Nat.lt_of_lt_of_le hb hk) hi hv h1 ho
  | mp hb hi hv h1 ho => exact fun hk => .mp (Nat.lt_of_lt_of_le hb hk) hi hv h1 ho

theorem ltL_all {k : Nat} : ∀ {l : List PV}, PV.lt.ltL k l = true → ∀ (i : Nat) (p : PV), l[i]? = some p → p.lt k = true
  | [], _, i, p, hp => by simp at hp
  | q :: r, h, i, p, hp => by
    simp only [PV.lt.ltL, Bool.and_eq_true] at h
    cases i with
    | zero => simp at hp; exact hp ▸ h.1
    | succ i => exact ltL_all h.2 i p (by simpa using hp)

/-- what refers to blocks below j alone -/
theorem Rep.down {m : Mem} {k : Nat} {p : PV} {v : Value} (h : Rep m k p v) : ∀ {j : Nat}, p.lt j = true → Rep m j p v := by
  induction h with
  | bool => exact fun _ => .bool
  | int => exact fun _ => .int
  | str => exact fun _ => .str
  | v => exact fun _ => .v
  | top => exact fun _ => .top
  | nn => exact fun _ => .nn
  | nilS => exact fun _ => .nilS
  | agg hl _ ih => exact fun hj => .agg hl fun i p hp => ih i p hp (ltL_all (by simpa [PV.lt] using hj) i p hp)
  | tup hl _ ih => exact fun hj => .tup hl fun i p hp => ih i p hp (ltL_all (by simpa [PV.lt] using hj) i p hp)
  | fn hl _ ih => exact fun hj => .fn hl fun i p hp => ih i p hp (ltL_all (by simpa [PV.lt] using hj) i p hp)
  | slz h1 h2 => exact fun _ => .slz h1 h2
  | sl h1 h2 h3 h4 hc hr _ => exact fun _ => .sl h1 h2 h3 h4 hc hr
  | cptr hc hr _ => exact fun _ => .cptr hc hr
  | own hb hi hv h1 ho => intro j hj; exact .own (by simpa [PV.lt, Nat.blt_eq] using hj) hi hv h1 ho
  | ptr hb hi hv h1 ho => intro j hj; exact .ptr (by simpa [PV.lt, Nat.blt_eq] using hj) hi hv h1 ho
  | mp hb hi hv h1 ho => intro j hj; exact .mp (by simpa [PV.lt, Nat.blt_eq] using hj) hi hv h1 ho

/-- closed values don't look at the blocks -/
theorem Rep.re {m m' : Mem} {p : PV} {v : Value} (h : Rep m 0 p v) (hc : ∀ b o v, m.cell b o = some v → m'.cell b o = some v) : Rep m' 0 p v :=
  h.mono ⟨hc, fun _ _ hb => absurd hb (by omega)⟩

theorem noMemL_all : ∀ {l : List PV}, PV.noMem.noMemL l = true → ∀ (i : Nat) (p : PV), l[i]? = some p → p.noMem = true
  | [], _, i, p, hp => by simp at hp
  | q :: r, h, i, p, hp => by
    simp only [PV.noMem.noMemL, Bool.and_eq_true] at h
    cases i with
    | zero => simp at hp; exact hp ▸ h.1
    | succ i => exact noMemL_all h.2 i p (by simpa using hp)
theorem noMemLL_all : ∀ {l : List (List PV)}, PV.noMem.noMemLL l = true → ∀ r ∈ l, PV.noMem.noMemL r = true
  | [], _, r, hp => by simp at hp
  | q :: l, h, r, hp => by
    simp only [PV.noMem.noMemLL, Bool.and_eq_true] at h
    rcases List.mem_cons.1 hp with rfl | hp
    · exact h.1
    · exact noMemLL_all h.2 r hp

/-- what speaks of no memory holds over any -/
theorem Rep.free {m : Mem} {k : Nat} {p : PV} {v : Value} (h : Rep m k p v) : ∀ {m' : Mem}, p.noMem = true → Rep m' 0 p v := by
  induction h with
  | bool => exact fun _ => .bool
  | int => exact fun _ => .int
  | str => exact fun _ => .str
  | v => exact fun _ => .v
  | top => exact fun _ => .top
  | nn => exact fun _ => .nn
  | nilS => exact fun _ => .nilS
  | agg hl _ ih => exact fun hj => .agg hl fun i p hp => ih i p hp (noMemL_all (by simpa [PV.noMem] using hj) i p hp)
  | tup hl _ ih => exact fun hj => .tup hl fun i p hp => ih i p hp (noMemL_all (by simpa [PV.noMem] using hj) i p hp)
  | fn hl _ ih => exact fun hj => .fn hl fun i p hp => ih i p hp (noMemL_all (by simpa [PV.noMem] using hj) i p hp)
  | slz h1 h2 => exact fun _ => .slz h1 h2
  | sl h1 h2 h3 h4 hc hr _ =>
    intro m' hj
    simp [PV.noMem] at hj
    subst hj
    exact .slz h2 (by simpa using h3)
  | cptr hc hr _ => exact fun hj => by simp [PV.noMem] at hj
  | own hb hi hv h1 ho => exact fun hj => by simp [PV.noMem] at hj
  | ptr hb hi hv h1 ho => exact fun hj => by simp [PV.noMem] at hj
  | mp hb hi hv h1 ho => exact fun hj => by simp [PV.noMem] at hj

theorem rep_ofVal (m : Mem) (x : Value) : Rep m 0 (ofVal x) x := by
  cases x with
  | slice a n c => cases a with
    | none =>
      by_cases h : n = 0 ∧ c = 0
      · obtain ⟨rfl, rfl⟩ := h; exact .nilS
      · unfold ofVal; split <;> first | exact .v | simp_all
    | some a => exact .v
  | func f a c => cases f with
    | func f =>
      unfold ofVal
      simp only
      split
      · rename_i h
        obtain ⟨h1, h2⟩ := h
        have e1 : a = #[] := Array.eq_empty_of_size_eq_zero h1
        have e2 : c = #[] := Array.eq_empty_of_size_eq_zero h2
        subst e1 e2
        exact .fn rfl (fun i p hp => by simp at hp)
      · exact .v
    | _ => exact .v
  | _ => first | exact .bool | exact .int | exact .str | exact .v

theorem leaf_one {m : Mem} {k : Nat} {p : PV} {v : Value} (h : Rep m k p v) (hl : p.leaf = true) : v.oneCell' = true := by
  cases h <;> first
    | rfl
    | (simp [PV.leaf] at hl; done)
    | exact hl
    | assumption

end Go.Proofs.YtidkdiooempkpaaDoor
/- Worlds and the memory that the pure reading knows. -/
namespace Go.Proofs.YtidkdiooempkpaaDoor
open Go Go.RowKit
set_option linter.unusedSectionVars false
variable [Bs]

def FrzOk (m : Mem) (w : World) : Prop := (∀ b o v, m.cell b o = some v → w.cell? ⟨b, o, none⟩ = some v ∧ v.oneCell' = true) ∧ (∀ b o v, Bs.cell b o = some v → m.cell b o = some v) ∧ ∀ g ob, Bs.obj g = some ob → (∃ u, Bs.cell g 0 = some u) ∧ w.heap[g]? = some ob

/-- the rows x.rows lie in the cells cur -/
def RowsIn (m : Mem) (k : Nat) (e : Nat) (rows : List (List PV)) (cur : Array Value) : Prop :=
  ∀ (r : Nat) (row : List PV) (j : Nat) (p : PV), rows[r]? = some row → row[j]? = some p → ∃ v, cur[r * e + j]? = some v ∧ v.oneCell' = true ∧ Rep m k p v

structure BlkAt (m : Mem) (k : Nat) (w : World) (i : Info) (x : Blk) : Prop where
  ver : i.ver = x.ver
  e : i.e = x.e
  n : i.n = x.rows.length
  rowl : ∀ r ∈ x.rows, r.length = x.e
  mem : (i.virt = true ∧ x.rows = []) ∨ (i.virt = false ∧ ∃ cur ty, w.heap[i.g]? = some (.cells cur ty (0, 0)) ∧ cur.size = i.cap * i.e ∧ i.n ≤ i.cap ∧ i.cap ≤ maxLen ∧
    RowsIn m (if x.flat then 0 else k) x.e x.rows cur)
  ne : x.e < mapE

/-- the entries of a map -/
def MapIn (m : Mem) (k : Nat) (rows : List (List PV)) (es : Array MapEntry) : Prop :=
  es.size = rows.length ∧ ∀ (r : Nat) (row : List PV), rows[r]? = some row → ∃ kp vp e, row = [kp, vp] ∧ es[r]? = some e ∧ Rep m k kp e.key ∧ Rep m k vp e.val

/-- the entries' stamps -/
def BornOk (es : Array MapEntry) (clock : Nat) : Prop := (∀ e ∈ es.toList, e.born < clock) ∧ (es.toList.map (·.born)).Nodup

structure MapAt (m : Mem) (k : Nat) (w : World) (i : Info) (x : Blk) : Prop where
  ver : i.ver = x.ver
  e : x.e = mapE
  virt : i.virt = false
  mem : ∃ es clock, w.heap[i.g]? = some (.map es clock) ∧ MapIn m (if x.flat then 0 else k) x.rows es ∧ BornOk es clock

/-- an object that is known as it stands -/
structure ObjAt (w : World) (i : Info) (x : Blk) : Prop where
  ver : i.ver = x.ver
  e : x.e = iterE
  virt : i.virt = false
  mem : ∃ ob, w.heap[i.g]? = some ob ∧ x.flat = true ∧ x.rows = [[.ob ob, .int .i64 (i.g : Int)]]

def At (m : Mem) (k : Nat) (w : World) (i : Info) (x : Blk) : Prop := BlkAt m k w i x ∨ MapAt m k w i x ∨ ObjAt w i x

structure Owns (B : Nat) (m : Mem) (k : Nat) (w : World) (bl : Blks) : Prop where
  at_ : ∀ id x i, bl[id]? = some (some x) → m.blk id = some i → At m k w i x
  base : ∀ id x i, bl[id]? = some (some x) → m.blk id = some i → i.virt = false → B ≤ i.g ∧ ∀ o, m.cell i.g o = none
  inj : ∀ id x i id' x' i', bl[id]? = some (some x) → m.blk id = some i → bl[id']? = some (some x') → m.blk id' = some i' → i.virt = false → i'.virt = false → i.g = i'.g → id = id'

theorem RowsIn.mono {m m' : Mem} {k k' e : Nat} {rows cur} (h : RowsIn m k e rows cur) (hm : MLe k m m') (hk : k ≤ k') : RowsIn m' k' e rows cur :=
  fun r row j p hr hp => by obtain ⟨v, h1, h2, h3⟩ := h r row j p hr hp; exact ⟨v, h1, h2, (h3.mono hm).up hk⟩

theorem BlkAt.mono {m m' : Mem} {k k' : Nat} {w w' : World} {i : Info} {x : Blk} (h : BlkAt m k w i x) (hm : MLe k m m') (hk : k ≤ k') (hw : i.virt = false → w'.heap[i.g]? = w.heap[i.g]?) : BlkAt m' k' w' i x := by
  refine ⟨h.ver, h.e, h.n, h.rowl, ?_, h.ne⟩
  rcases h.mem with h | ⟨hv, cur, ty, h1, h3, h4, h5, h6⟩
  · exact .inl h
  · refine .inr ⟨hv, cur, ty, (hw hv).trans h1, h3, h4, h5, ?_⟩
    cases hx : x.flat
    · rw [hx] at h6
      simp only [Bool.false_eq_true, if_false] at h6 ⊢
      exact h6.mono hm hk
    · rw [hx] at h6
      simp only [if_true] at h6 ⊢
      exact h6.mono (hm.le (Nat.zero_le _)) (Nat.le_refl _)

theorem BlkAt.lt {m : Mem} {k : Nat} {w : World} {i : Info} {x : Blk} (h : BlkAt m k w i x) (hv : i.virt = false) : i.g < w.heap.size := by
  rcases h.mem with ⟨h, _⟩ | ⟨_, cur, ty, h1, _⟩
  · rw [hv] at h; cases h
  · exact (Array.getElem?_eq_some_iff.1 h1).1

theorem MapIn.mono {m m' : Mem} {k k' : Nat} {rows es} (h : MapIn m k rows es) (hm : MLe k m m') (hk : k ≤ k') : MapIn m' k' rows es :=
  ⟨h.1, fun r row hr => by obtain ⟨kp, vp, e, h1, h2, h3, h4⟩ := h.2 r row hr; exact ⟨kp, vp, e, h1, h2, (h3.mono hm).up hk, (h4.mono hm).up hk⟩⟩
theorem MapAt.mono {m m' : Mem} {k k' : Nat} {w w' : World} {i : Info} {x : Blk} (h : MapAt m k w i x) (hm : MLe k m m') (hk : k ≤ k') (hw : i.virt = false → w'.heap[i.g]? = w.heap[i.g]?) : MapAt m' k' w' i x := by
  obtain ⟨es, clock, h1, h2, h4⟩ := h.mem
  refine ⟨h.ver, h.e, h.virt, es, clock, (hw h.virt).trans h1, ?_, h4⟩
  cases hx : x.flat
  · rw [hx] at h2; exact h2.mono hm hk
  · rw [hx] at h2; exact h2.mono (hm.le (Nat.zero_le _)) (Nat.le_refl _)
theorem At.mono {m m' : Mem} {k k' : Nat} {w w' : World} {i : Info} {x : Blk} (h : At m k w i x) (hm : MLe k m m') (hk : k ≤ k') (hw : i.virt = false → w'.heap[i.g]? = w.heap[i.g]?) : At m' k' w' i x := by
  rcases h with h | h | h
  · exact .inl (h.mono hm hk hw)
  · exact .inr (.inl (h.mono hm hk hw))
  · obtain ⟨ob, h1, h2, h3⟩ := h.mem
    exact .inr (.inr ⟨h.ver, h.e, h.virt, ob, (hw h.virt).trans h1, h2, h3⟩)
theorem At.lt {m : Mem} {k : Nat} {w : World} {i : Info} {x : Blk} (h : At m k w i x) (hv : i.virt = false) : i.g < w.heap.size := by
  rcases h with h | h | h
  · exact h.lt hv
  · obtain ⟨es, clock, h1, _⟩ := h.mem
    exact (Array.getElem?_eq_some_iff.1 h1).1
  · obtain ⟨ob, h1, _⟩ := h.mem
    exact (Array.getElem?_eq_some_iff.1 h1).1
theorem At.blk {m : Mem} {k : Nat} {w : World} {i : Info} {x : Blk} (h : At m k w i x) (he : x.e < mapE) : BlkAt m k w i x := by
  rcases h with h | h | h
  · exact h
  · have := h.e; omega
  · have := h.e; simp only [mapE, iterE] at *; omega
theorem At.map {m : Mem} {k : Nat} {w : World} {i : Info} {x : Blk} (h : At m k w i x) (he : x.e = mapE) : MapAt m k w i x := by
  rcases h with h | h | h
  · have := h.ne; omega
  · exact h
  · have := h.e; simp only [mapE, iterE] at *; omega
theorem At.obj {m : Mem} {k : Nat} {w : World} {i : Info} {x : Blk} (h : At m k w i x) (he : x.e = iterE) : ObjAt w i x := by
  rcases h with h | h | h
  · have := h.ne; simp only [mapE, iterE] at *; omega
  · have := h.e; simp only [mapE, iterE] at *; omega
  · exact h

structure Keeps (k : Nat) (m m' : Mem) : Prop where
  cell : ∀ b o v, m.cell b o = some v → m'.cell b o = some v
  blk : ∀ b i, m.blk b = some i → m'.blk b = some i

theorem Keeps.refl (k : Nat) (m : Mem) : Keeps k m m := ⟨fun _ _ _ h => h, fun _ _ h => h⟩
theorem Keeps.mle {k j : Nat} {m m' : Mem} (h : Keeps k m m') : MLe j m m' := ⟨h.cell, fun b i _ hi => ⟨i, h.blk b i hi, .inl rfl⟩⟩

/-- what is owned when the world has grown -/
theorem Owns.ext {B : Nat} {m m' : Mem} {k k' : Nat} {w w' : World} {bl : Blks} (h : Owns B m k w bl) (hm : Keeps k m m') (hk : k ≤ k') (hB : B ≤ w.heap.size)
    (hw : ∀ b, b < w.heap.size → w'.heap[b]? = w.heap[b]?) (hcel : ∀ b o v, m'.cell b o = some v → m.cell b o = some v ∨ w.heap.size ≤ b)
    (hnew : ∀ id x i, bl[id]? = some (some x) → m'.blk id = some i → m.blk id = some i ∨
      (At m' k' w' i x ∧ (i.virt = false → w.heap.size ≤ i.g ∧ (∀ o, m'.cell i.g o = none) ∧ ∀ id' x' i', bl[id']? = some (some x') → m'.blk id' = some i' → m.blk id' = none → i'.virt = false → i'.g = i.g → id' = id))) :
    Owns B m' k' w' bl := by
  refine ⟨fun id x i hx hi => ?_, fun id x i hx hi hv => ?_, fun id x i id' x' i' hx hi hx' hi' hv hv' hg => ?_⟩
  · rcases hnew id x i hx hi with ho | ⟨hb, _⟩
    · exact (h.at_ id x i hx ho).mono hm.mle hk (fun hv => hw _ ((h.at_ id x i hx ho).lt hv))
    · exact hb
  · rcases hnew id x i hx hi with ho | ⟨_, hb⟩
    · obtain ⟨h1, h2⟩ := h.base id x i hx ho hv
      refine ⟨h1, fun o => ?_⟩
      cases hc : m'.cell i.g o with
      | none => rfl
      | some v =>
        rcases hcel _ _ _ hc with hc | hc
        · rw [h2 o] at hc; cases hc
        · have := (h.at_ id x i hx ho).lt hv; omega
    · obtain ⟨h1, h2, _⟩ := hb hv
      exact ⟨Nat.le_trans hB h1, h2⟩
  · rcases hnew id x i hx hi with ho | ⟨_, hb⟩
    · rcases hnew id' x' i' hx' hi' with ho' | ⟨_, hb'⟩
      · exact h.inj id x i id' x' i' hx ho hx' ho' hv hv' hg
      · obtain ⟨h1, _⟩ := hb' hv'
        have := (h.at_ id x i hx ho).lt hv
        omega
    · rcases hnew id' x' i' hx' hi' with ho' | ⟨_, hb'⟩
      · obtain ⟨h1, _⟩ := hb hv
        have := (h.at_ id' x' i' hx' ho').lt hv'
        omega
      · obtain ⟨_, _, h3⟩ := hb hv
        obtain ⟨h1, _, _⟩ := hb' hv'
        cases hn : m.blk id' with
        | none => exact (h3 id' x' i' hx' hi' hn hv' hg.symm).symm
        | some j =>
          have := hm.blk _ _ hn
          rw [hi'] at this
          cases this
          have := (h.at_ id' x' i' hx' hn).lt hv'
          omega

/-- what an operation that changes no block leaves -/
structure PurOut (B : Nat) (k : Nat) (m : Mem) (w : World) (n0 : Nat) (n : Nat) (BL : Blks) (p : PV) (v : Value) (m' : Mem) (w' : World) (k' : Nat) : Prop where
  rep : Rep m' k' p v
  keep : Keeps k m m'
  kk : k ≤ k'
  frz : FrzOk m' w'
  own : Owns B m' k' w' BL
  bel : Below w.heap.size w w'
  cel : ∀ b o v, m'.cell b o = some v → m.cell b o = some v ∨ w.heap.size ≤ b
  blk : ∀ id, m'.blk id = m.blk id ∨ (n0 ≤ id ∧ id < n0 + n)
  made : ∀ j, j < n → m'.blk (n0 + j) ≠ none

theorem PurOut.same {B k m w n0 BL p v} (hf : FrzOk m w) (ho : Owns B m k w BL) (hr : Rep m k p v) : PurOut B k m w n0 0 BL p v m w k :=
  ⟨hr, Keeps.refl _ _, Nat.le_refl _, hf, ho, Below.refl _ _, fun _ _ _ h => .inl h, fun _ => .inl rfl, fun _ h => absurd h (by omega)⟩

theorem frz_grow {m : Mem} {w w' : World} (h : FrzOk m w) (hw : ∀ b, b < w.heap.size → w'.heap[b]? = w.heap[b]?) : FrzOk m w' := ⟨fun b o v hc => by
  obtain ⟨h1, h2⟩ := h.1 b o v hc
  have hlt : b < w.heap.size := World.block_lt_of_cell? w ⟨b, o, none⟩ h1
  exact ⟨(World.cell?_of_block (w := w) (a := ⟨b, o, none⟩) (hw b hlt)).trans h1, h2⟩, h.2.1, fun g ob hg => by
  obtain ⟨⟨u, hu⟩, h3⟩ := h.2.2 g ob hg
  have hlt : g < w.heap.size := World.block_lt_of_cell? w ⟨g, 0, none⟩ (h.1 g 0 u (h.2.1 g 0 u hu)).1
  exact ⟨⟨u, hu⟩, (hw g hlt).trans h3⟩⟩

theorem frz_none {m : Mem} {w : World} (h : FrzOk m w) (o : Nat) {b : Nat} (hb : w.heap.size ≤ b) : m.cell b o = none := by
  cases hc : m.cell b o with
  | none => rfl
  | some v => have := World.block_lt_of_cell? w ⟨b, o, none⟩ (h.1 b o v hc).1; simp at this; omega

def Mem.addBlk (m : Mem) (id : Nat) (i : Info) : Mem := ⟨m.cell, fun j => if j = id then some i else m.blk j⟩
theorem Mem.addBlk_same (m : Mem) (id : Nat) (i : Info) : (m.addBlk id i).blk id = some i := by simp [Mem.addBlk]
theorem Mem.addBlk_keeps {m : Mem} {id : Nat} (i : Info) (k : Nat) (h : m.blk id = none) : Keeps k m (m.addBlk id i) :=
  ⟨fun _ _ _ h => h, fun b j hb => by
    have : b ≠ id := fun e => by subst e; rw [h] at hb; cases hb
    simp [Mem.addBlk, this, hb]⟩

/-- one new block of the call's own (or one that is nowhere yet) -/
theorem PurOut.newA {B k : Nat} {m : Mem} {w w' : World} {n0 : Nat} {BL : Blks} {p : PV} {v : Value} {x : Blk} (i : Info) (hf : FrzOk m w) (ho : Owns B m k w BL) (hB : B ≤ w.heap.size)
    (hx : BL[n0]? = some (some x)) (hfr : m.blk n0 = none) (hbel : Below w.heap.size w w')
    (hat : At m k w' i x) (hg : i.virt = false → w.heap.size ≤ i.g) (hr : Rep (m.addBlk n0 i) (k + n0 + 1) p v) : PurOut B k m w n0 1 BL p v (m.addBlk n0 i) w' (k + n0 + 1) := by
  have hk : Keeps k m (m.addBlk n0 i) := Mem.addBlk_keeps i k hfr
  refine ⟨hr, hk, by omega, ⟨fun b o v hc => (frz_grow hf hbel.block).1 b o v hc, (frz_grow hf hbel.block).2⟩, ?_, hbel, fun _ _ _ h => .inl h, fun id => ?_, fun j hj => ?_⟩
  · refine ho.ext hk (by omega) hB hbel.block (fun _ _ _ h => .inl h) (fun id y j hy hj => ?_)
    by_cases e : id = n0
    · subst e
      rw [Mem.addBlk_same] at hj
      cases hj
      rw [hx] at hy
      cases hy
      refine .inr ⟨hat.mono hk.mle (by omega) (fun _ => rfl), fun hv => ⟨hg hv, fun o => frz_none hf o (hg hv), fun id' x' i' hx' hi' hn _ _ => ?_⟩⟩
      by_cases e' : id' = id
      · exact e'
      · simp [Mem.addBlk, e'] at hi'; rw [hn] at hi'; cases hi'
    · left
      simpa [Mem.addBlk, e] using hj
  · by_cases e : id = n0
    · exact .inr ⟨by omega, by omega⟩
    · left; simp [Mem.addBlk, e]
  · obtain rfl : j = 0 := by omega
    simp [Mem.addBlk]

theorem PurOut.new {B k : Nat} {m : Mem} {w w' : World} {n0 : Nat} {BL : Blks} {p : PV} {v : Value} {x : Blk} (i : Info) (hf : FrzOk m w) (ho : Owns B m k w BL) (hB : B ≤ w.heap.size)
    (hx : BL[n0]? = some (some x)) (hfr : m.blk n0 = none) (hbel : Below w.heap.size w w')
    (hat : BlkAt m k w' i x) (hg : i.virt = false → w.heap.size ≤ i.g) (hr : Rep (m.addBlk n0 i) (k + n0 + 1) p v) : PurOut B k m w n0 1 BL p v (m.addBlk n0 i) w' (k + n0 + 1) :=
  PurOut.newA i hf ho hB hx hfr hbel (.inl hat) hg hr

/-- frozen cells at a new block -/
def Mem.addFrz (m : Mem) (g : Nat) (c : Nat → Option Value) : Mem := ⟨fun b o => if b = g then c o else m.cell b o, m.blk⟩

theorem PurOut.frozen {B k : Nat} {m : Mem} {w w' : World} {n0 : Nat} {BL : Blks} {p : PV} {v : Value} (c : Nat → Option Value) (hf : FrzOk m w) (ho : Owns B m k w BL) (hB : B ≤ w.heap.size)
    (hbel : Below w.heap.size w w') (hc : ∀ o v, c o = some v → w'.cell? ⟨w.heap.size, o, none⟩ = some v ∧ v.oneCell' = true) (hr : Rep (m.addFrz w.heap.size c) k p v) :
    PurOut B k m w n0 0 BL p v (m.addFrz w.heap.size c) w' k := by
  have hk : Keeps k m (m.addFrz w.heap.size c) := ⟨fun b o v h => by
    have : b ≠ w.heap.size := fun e => by subst e; rw [frz_none hf o (Nat.le_refl _)] at h; cases h
    simp [Mem.addFrz, this, h], fun _ _ h => h⟩
  have hcel : ∀ b o v, (m.addFrz w.heap.size c).cell b o = some v → m.cell b o = some v ∨ w.heap.size ≤ b := fun b o v h => by
    by_cases e : b = w.heap.size
    · exact .inr (by omega)
    · simp [Mem.addFrz, e] at h; exact .inl h
  refine ⟨hr, hk, Nat.le_refl _, ⟨fun b o v h => ?_, fun b o v h => hk.cell b o v (hf.2.1 b o v h), (frz_grow hf hbel.block).2.2⟩, ?_, hbel, hcel, fun _ => .inl rfl, fun _ h => absurd h (by omega)⟩
  · by_cases e : b = w.heap.size
    · subst e; simp [Mem.addFrz] at h; exact hc o v h
    · simp [Mem.addFrz, e] at h; exact (frz_grow hf hbel.block).1 b o v h
  · exact ho.ext hk (Nat.le_refl _) hB hbel.block hcel (fun id x i _ hi => .inl hi)

end Go.Proofs.YtidkdiooempkpaaDoor
/- The operations that change no block: each does what its pure reading says (first part). -/
namespace Go.Proofs.YtidkdiooempkpaaDoor
open Go Go.RowKit
set_option linter.unusedSectionVars false
variable [Bs]
set_option linter.unusedVariables false

section
variable {P : Program} {o : Oper} {a : Act} {w w' : World} {next : Act → World → Prop} {Q : Exit → Act → World → Prop} {v : Value}
theorem wp_of_run (h : (execOp a.eval o).run P w = .ok (.value v) w') (hn : next (a.put o.dst v) w') : o.wp P a w next Q := by
  unfold Oper.wp; rw [h]; exact hn
theorem wp_of_skip (h : (execOp a.eval o).run P w = .ok .skip w') (hn : next (a.put o.dst undef) w') : o.wp P a w next Q := by
  unfold Oper.wp; rw [h]; exact hn
end

theorem run_value {P : Program} {s : Sem Value} {v : Value} {w w' : World} (h : s.run P w = .ok v w') : (do pure (Next.value (← s)) : Sem Next).run P w = .ok (.value v) w' := by
  simp [h]

theorem opd {m : Mem} {k : Nat} {sl : List PV} {a : Act} {x : Operand} {ax : AO} (hd : digV x = some ax) (ht : ∀ t, x = .tmp t → Rep m k (sl.getD t .top) (a.tmps.getD t undef)) : Rep m k (ax.ev sl) (a.eval x) := by
  cases x with
  | tmp t => simp [digV] at hd; subst hd; exact ht t rfl
  | const v => simp [digV] at hd; subst hd; exact (rep_ofVal m v).up (Nat.zero_le _)
  | func f => simp [digV] at hd; subst hd; exact .fn rfl (fun i p hp => by simp at hp)
  | global g => simp [digV] at hd

theorem opdA {m : Mem} {w : World} {k : Nat} {sl : List PV} {a : Act} {x : Operand} {ax : AO} (hf : FrzOk m w) (hd : digA x = some ax) (ht : ∀ t, x = .tmp t → Rep m k (sl.getD t .top) (a.tmps.getD t undef)) : Rep m k (ax.ev sl) (a.eval x) := by
  cases x with
  | tmp t => exact opd hd ht
  | const v => exact opd hd ht
  | func f => exact opd hd ht
  | global g =>
    simp only [digA] at hd
    split at hd
    · rename_i vs hg
      cases hd
      have e1 : gcells g = .cptr (vs.map ofVal) := by unfold gcells; rw [hg]; rfl
      show Rep m k (gcells g) (.pointer (some ⟨g, 0, none⟩))
      rw [e1]
      refine .cptr (vals := fun j => vs.getD j undef) (fun j p hj => ?_) (fun j p hj => ?_)
      · rw [List.getElem?_map, Option.map_eq_some_iff] at hj
        obtain ⟨v, hv, rfl⟩ := hj
        have := hf.2.1 g j v (Bs.gl g vs j v hg hv)
        rw [Nat.zero_add, this, List.getD_eq_getElem?_getD, hv]; rfl
      · rw [List.getElem?_map, Option.map_eq_some_iff] at hj
        obtain ⟨v, hv, rfl⟩ := hj
        rw [List.getD_eq_getElem?_getD, hv]
        exact rep_ofVal m v
    · cases hd

theorem getB_spec {bl : Blks} {b ver : Nat} {x : Blk} (h : getB bl b ver = some x) : bl[b]? = some (some x) ∧ x.ver = ver := by
  unfold getB at h
  split at h
  · split at h
    · rename_i hc; cases h; exact ⟨by assumption, hc.1⟩
    · cases h
  · cases h
theorem getB_ne {bl : Blks} {b ver : Nat} {x : Blk} (h : getB bl b ver = some x) : x.e < mapE := by
  unfold getB at h
  split at h
  · split at h
    · rename_i hc; cases h; exact hc.2
    · cases h
  · cases h
theorem getM_spec {bl : Blks} {b ver : Nat} {x : Blk} (h : getM bl b ver = some x) : bl[b]? = some (some x) ∧ x.ver = ver ∧ x.e = mapE := by
  unfold getM at h
  split at h
  · split at h
    · rename_i hc; cases h; exact ⟨by assumption, hc.1, hc.2⟩
    · cases h
  · cases h

/-- what is known before an operation -/
structure PurIn (B k : Nat) (m : Mem) (w : World) (bl : Blks) (ns : List Blk) (BL : Blks) : Prop where
  frz : FrzOk m w
  own : Owns B m k w BL
  hB : B ≤ w.heap.size
  sub : ∀ (j : Nat) (x : Option Blk), (bl ++ ns.map some)[j]? = some x → BL[j]? = some x
  fresh : ∀ j, j < ns.length → m.blk (bl.length + j) = none

theorem PurIn.old {B k m w bl ns BL} (h : PurIn B k m w bl ns BL) {b : Nat} {x : Option Blk} (hb : bl[b]? = some x) : BL[b]? = some x :=
  h.sub b x (by rw [List.getElem?_append_left (List.getElem?_eq_some_iff.1 hb).1]; exact hb)

theorem PurIn.one {B k m w bl x BL} (h : PurIn B k m w bl [x] BL) : BL[bl.length]? = some (some x) ∧ m.blk bl.length = none :=
  ⟨h.sub _ _ (by simp), by simpa using h.fresh 0 (by simp)⟩

/-- a cell that is read through a pointer -/
theorem ptr_read {B k m w bl ns BL} (h : PurIn B k m w bl ns BL) {b ver r off : Nat} {v : Value} {x : Blk} {row : List PV} (hr : Rep m k (.ptr b ver r off) v) (hg : getB bl b ver = some x) (hrow : x.rows[r]? = some row) :
    ∃ (i : Info), m.blk b = some i ∧ BlkAt m k w i x ∧ i.virt = false ∧ v = .pointer (some ⟨i.g, r * x.e + off, none⟩) ∧
      ∀ j p, row[j]? = some p → ∃ u, w.cell? ⟨i.g, r * x.e + j, none⟩ = some u ∧ u.oneCell' = true ∧ Rep m k p u := by
  cases hr with
  | ptr hb hi hv h1 ho =>
    rename_i i
    obtain ⟨hbl, hver⟩ := getB_spec hg
    have hat := (h.own.at_ b x i (h.old hbl) hi).blk (getB_ne hg)
    have hver' : i.ver = ver := hat.ver.trans hver
    rcases hat.mem with ⟨_, h0⟩ | ⟨hvirt, cur, ty, hg1, hg2, hg3, hg4, hg5⟩
    · rw [h0] at hrow; simp at hrow
    · refine ⟨i, hi, hat, hvirt, ?_, fun j p hp => ?_⟩
      · rw [← hat.e]; exact ho hver' hvirt
      · obtain ⟨u, hu, hone, hrep⟩ := hg5 r row j p hrow hp
        refine ⟨u, ?_, hone, ?_⟩
        · simpa [World.cell?, hg1] using hu
        · split at hrep
          · exact hrep.up (Nat.zero_le _)
          · exact hrep

theorem list_ex {P : Nat → Value → Prop} : ∀ (n : Nat), (∀ i, i < n → ∃ o, P i o) → ∃ L : List Value, L.length = n ∧ ∀ (i : Nat) (o : Value), L[i]? = some o → P i o
  | 0, _ => ⟨[], rfl, fun i o h => by simp at h⟩
  | n + 1, h => by
    obtain ⟨L, hl, hL⟩ := list_ex n (fun i hi => h i (by omega))
    obtain ⟨o, ho⟩ := h n (by omega)
    refine ⟨L ++ [o], by simp [hl], fun i o' hi => ?_⟩
    by_cases hin : i < n
    · rw [List.getElem?_append_left (by omega)] at hi
      exact hL i o' hi
    · have hlt := (List.getElem?_eq_some_iff.1 hi).1
      simp [hl] at hlt
      obtain rfl : i = n := by omega
      rw [List.getElem?_append_right (by omega)] at hi
      simp [hl] at hi
      subst hi
      exact ho

/-- the values of some cells, as a list -/
theorem read_cells {m : Mem} {k : Nat} {w : World} {ps : List PV} {b off : Nat} (h : ∀ j p, ps[j]? = some p → ∃ u, w.cell? ⟨b, off + j, none⟩ = some u ∧ u.oneCell' = true ∧ Rep m k p u) :
    ∃ cs : List Value, cs.length = ps.length ∧ (∀ j u, cs[j]? = some u → w.cell? ⟨b, off + j, none⟩ = some u ∧ u.oneCell' = true) ∧ ∀ j p, ps[j]? = some p → Rep m k p (cs.getD j undef) := by
  obtain ⟨cs, hl, hc⟩ := list_ex (P := fun j u => w.cell? ⟨b, off + j, none⟩ = some u ∧ u.oneCell' = true ∧ ∀ p, ps[j]? = some p → Rep m k p u) ps.length (fun j hj => by
    obtain ⟨u, h1, h2, h3⟩ := h j ps[j] (List.getElem?_eq_getElem hj)
    exact ⟨u, h1, h2, fun p hp => by rw [List.getElem?_eq_getElem hj] at hp; cases hp; exact h3⟩)
  refine ⟨cs, hl, fun j u hu => ⟨(hc j u hu).1, (hc j u hu).2.1⟩, fun j p hp => ?_⟩
  have hj : j < cs.length := by rw [hl]; exact (List.getElem?_eq_some_iff.1 hp).1
  have := (hc j cs[j] (List.getElem?_eq_getElem hj)).2.2 p hp
  simpa [List.getD, List.getElem?_eq_getElem hj] using this

theorem run_loadAt {P : Program} {w : World} {t : TypeId} {g : Bool} {i : TypeInfo} {b off : Nat} {cs : List Value} (hg : aggB P t = some g) (hi : P.info? t = some i) (hl : cs.length = i.size)
    (hc : ∀ j u, cs[j]? = some u → w.cell? ⟨b, off + j, none⟩ = some u) (h1 : g = true ∨ i.size = 1) :
    (Instr.loadAt t (.pointer (some ⟨b, off, none⟩))).run P w = .ok (if g then .agg cs.toArray else cs.getD 0 undef) w := by
  have hag : (isAgg t).run P w = .ok g w := by
    unfold aggB at hg
    unfold isAgg
    cases hu : P.underlying t with
    | none => rw [hu] at hg; cases hg
    | some d =>
      rw [hu] at hg
      cases d <;> simp [run_underlying hu] <;> simpa using hg.symm
  have hsz : (sizeOf t).run P w = .ok i.size w := by simp [sizeOf, typeInfo, hi]
  unfold Instr.loadAt Instr.sureAddr loadVar
  cases g with
  | true =>
    have hl' := run_loadCells_list (P := P) w ⟨b, off, none⟩ cs (fun j u hu => by rw [Addr.add_lit]; exact hc j u hu)
    rw [hl] at hl'
    simp [hag, hsz, hl']
  | false =>
    have h2 : i.size = 1 := by simpa using h1
    have hc0 : cs[0]? = some (cs.getD 0 undef) := by
      have : 0 < cs.length := by omega
      simp [List.getD, List.getElem?_eq_getElem this]
    have := hc 0 _ hc0
    simp only [Nat.add_zero] at this
    simp [hag, this]

theorem getD_arr (cs : List Value) (i : Nat) : cs.toArray.getD i undef = cs.getD i undef := by simp [Array.getD_eq_getD_getElem?, List.getD_eq_getElem?_getD]

theorem scal_rep {m : Mem} {k : Nat} {g : Bool} {ps : List PV} {p : PV} {cs : List Value} (h : scal g ps = some p) (hl : cs.length = ps.length) (hr : ∀ j p, ps[j]? = some p → Rep m k p (cs.getD j undef)) :
    Rep m k p (if g then .agg cs.toArray else cs.getD 0 undef) := by
  unfold scal at h
  cases g with
  | true =>
    simp only [if_true] at h ⊢
    cases h
    exact .agg (by simp [hl]) (fun i p hp => by rw [getD_arr]; exact hr i p hp)
  | false =>
    simp only [Bool.false_eq_true, if_false] at h ⊢
    split at h
    · cases h; exact hr 0 p rfl
    · cases h

end Go.Proofs.YtidkdiooempkpaaDoor
/- The operations that change no block: each does what its pure reading says (those that touch no memory). -/
namespace Go.Proofs.YtidkdiooempkpaaDoor
open Go Go.RowKit
set_option linter.unusedSectionVars false
variable [Bs]
set_option linter.unusedVariables false
set_option linter.unusedSimpArgs false

def PurSound (P : Program) (call : Cl) (own : List Nat) (o : Oper) : Prop :=
  ∀ (ao : AOp) (B k : Nat) (m : Mem) (w : World) (sl : List PV) (bl BL : Blks) (a : Act) (p : PV) (ns : List Blk) (next : Act → World → Prop) (Q : Exit → Act → World → Prop),
    digOp P own o = some ao → evPur call sl bl ao = some (p, ns) → (∀ t, .tmp t ∈ o.op.operands → Rep m k (sl.getD t .top) (a.tmps.getD t undef)) →
    PurIn B k m w bl ns BL → (∀ v m' w' k', PurOut B k m w bl.length ns.length BL p v m' w' k' → next (a.put o.dst v) w') → o.wp P a w next Q

section
variable {P : Program} {call : Cl} {own : List Nat} {o : Oper}

theorem bytes_toList (s : ByteArray) : s.toList = s.data.toList := by
  have key : ∀ (n i : Nat) (r : List UInt8), s.size - i = n → ByteArray.toList.loop s i r = r.reverse ++ s.data.toList.drop i := by
    intro n
    induction n with
    | zero =>
      intro i r h
      rw [ByteArray.toList.loop, if_neg (by omega), List.drop_of_length_le (by simpa using (by omega : s.size ≤ i))]
      simp
    | succ n ih =>
      intro i r h
      have hlt : i < s.size := by omega
      rw [ByteArray.toList.loop, if_pos hlt, ih (i + 1) _ (by omega)]
      have hd : s.data.toList.drop i = s.get! i :: s.data.toList.drop (i + 1) := by
        rw [List.drop_eq_getElem_cons (by simpa using hlt)]
        congr 1
        simp [ByteArray.get!, getElem!_pos, hlt]
      rw [hd]; simp
  have := key s.size 0 [] (by omega)
  simpa [ByteArray.toList] using this

theorem str_inv {m : Mem} {k : Nat} {l : List UInt8} {v : Value} (h : Rep m k (.str l) v) : ∃ s : ByteArray, v = .string s ∧ s.data.toList = l := by
  generalize hp : PV.str l = p at h
  cases h <;> first | (cases hp; exact ⟨_, rfl, rfl⟩) | cases hp
theorem int_inv {m : Mem} {k : Nat} {j : IntKind} {n : Int} {v : Value} (h : Rep m k (.int j n) v) : v = .int j n := by
  generalize hp : PV.int j n = p at h
  cases h <;> first | (cases hp; rfl) | cases hp
theorem bool_inv {m : Mem} {k : Nat} {b : Bool} {v : Value} (h : Rep m k (.bool b) v) : v = .bool b := by
  generalize hp : PV.bool b = p at h
  cases h <;> first | (cases hp; rfl) | cases hp
theorem agg_inv {m : Mem} {k : Nat} {ps : List PV} {v : Value} (h : Rep m k (.agg ps) v) : ∃ vs, v = .agg vs ∧ ps.length = vs.size ∧ ∀ i p, ps[i]? = some p → Rep m k p (vs.getD i undef) := by
  generalize hp : PV.agg ps = p at h
  cases h <;> first | (cases hp; exact ⟨_, rfl, by assumption, by assumption⟩) | cases hp
theorem tup_inv {m : Mem} {k : Nat} {ps : List PV} {v : Value} (h : Rep m k (.tup ps) v) : ∃ vs, v = .tuple vs ∧ ps.length = vs.size ∧ ∀ i p, ps[i]? = some p → Rep m k p (vs.getD i undef) := by
  generalize hp : PV.tup ps = p at h
  cases h <;> first | (cases hp; exact ⟨_, rfl, by assumption, by assumption⟩) | cases hp

theorem pur_mov {x : Operand} (h : o.op = .move x ∨ (o.op = .assign x ∧ isNilC x = false)) : PurSound P call own o := by
  intro ao B k m w sl bl BL a p ns next Q hd he hl hin hn
  have hex : execOp a.eval o = pure (.value (a.eval x)) := by
    rcases h with h | ⟨h, _⟩ <;> simp [execOp, h]
  have hop : ∀ t, x = .tmp t → Operand.tmp t ∈ o.op.operands := by
    rcases h with h | ⟨h, _⟩ <;> (intro t ht; simp [h, Op.operands, ht])
  cases hx : digV x with
  | none => rcases h with h | ⟨h, h2⟩ <;> simp_all [digOp]
  | some ax =>
    obtain rfl : AOp.mov ax = ao := by rcases h with h | ⟨h, h2⟩ <;> simp_all [digOp]
    simp [evPur] at he
    obtain ⟨rfl, rfl⟩ := he
    exact wp_of_run (by rw [hex]; rfl) (hn _ _ _ _ (PurOut.same hin.frz hin.own (opd hx (fun t ht => hl t (hop t ht)))))

theorem elemP_ne {t : TypeId} {x : TypeId × TypeInfo} (h : elemP P t = some x) : x.2.size < mapE := by
  unfold elemP at h
  split at h
  · split at h
    · split at h
      · rename_i hlt; cases h; simp only [mapE]; omega
      · cases h
    · cases h
  · cases h

theorem pur_nilv {x : Operand} (h : o.op = .assign x) (h2 : isNilC x = true) : PurSound P call own o := by
  intro ao B k m w sl bl BL a p ns next Q hd he hl hin hn
  simp only [digOp, h, h2, if_true] at hd
  have hx : x = .const (.slice none 0 0) := by
    unfold isNilC at h2
    split at h2
    · rfl
    · cases h2
  subst hx
  split at hd
  · cases hd
    simp [evPur, AO.ev] at he
    obtain ⟨rfl, rfl⟩ := he
    exact wp_of_run (v := .slice none 0 0) (by simp [execOp, h, Act.eval]) (hn _ _ _ _ (PurOut.same hin.frz hin.own .v))
  split at hd
  · rename_i hel
    have hne := elemP_ne hel
    cases hd
    simp [evPur] at he
    obtain ⟨rfl, rfl⟩ := he
    obtain ⟨h1, h3⟩ := hin.one
    refine wp_of_run (v := .slice none 0 0) (by simp [execOp, h, Act.eval]) (hn _ _ _ _ (PurOut.new ⟨0, 0, _, 0, 0, true⟩ hin.frz hin.own hin.hB h1 h3 (Below.refl _ _) ⟨rfl, rfl, rfl, by simp, .inl ⟨rfl, rfl⟩, hne⟩ (fun h => by cases h) ?_))
    exact .own (by omega) (Mem.addBlk_same _ _ _) (Nat.le_refl _) rfl (fun _ => .inl ⟨rfl, Nat.le_refl _, none, rfl⟩)
  · cases hd

theorem pur_pick {c x y : Operand} (h : o.op = .pick c x y) : PurSound P call own o := by
  intro ao B k m w sl bl BL a p ns next Q hd he hl hin hn
  simp only [digOp, h] at hd
  split at hd
  · rename_i ac ax ay hc hx hy
    cases hd
    simp only [evPur] at he
    have rc := opd (a := a) (m := m) (k := k) (sl := sl) hc (fun t ht => hl t (by simp [h, Op.operands, ht]))
    have rx := opd (a := a) (m := m) (k := k) (sl := sl) hx (fun t ht => hl t (by simp [h, Op.operands, ht]))
    have ry := opd (a := a) (m := m) (k := k) (sl := sl) hy (fun t ht => hl t (by simp [h, Op.operands, ht]))
    split at he
    · rename_i t ht
      rw [ht] at rc
      have hcv : a.eval c = .bool t := bool_inv rc
      simp at he
      obtain ⟨rfl, rfl⟩ := he
      refine wp_of_run (v := if t then a.eval x else a.eval y) (by simp [execOp, h, hcv, asBool]) (hn _ _ _ _ (PurOut.same hin.frz hin.own ?_))
      cases t
      · exact ry
      · exact rx
    · cases he
  · cases hd

theorem binP_run {op : BinOp} {P : Program} {t : TypeId} {w : World} {m : Mem} {k : Nat} {p q r : PV} {u v : Value} (h : binP op p q = some r) (hp : Rep m k p u) (hq : Rep m k q v) :
    ∃ z, (∀ x y, (eqGuard op t x y u v).run P w = .ok () w) ∧ (binOp op t u v).run P w = .ok z w ∧ Rep m k r z := by
  unfold binP at h
  split at h
  · obtain rfl := int_inv hp
    obtain rfl := int_inv hq
    rename_i k1 x1 k2 y1
    have hg : ∀ x y, (eqGuard op t x y (.int k1 x1) (.int k2 y1)).run P w = .ok () w := fun x y => by cases op <;> rfl
    split at h
    · split at h
      · cases h
        rename_i hy
        exact ⟨_, hg, by simp only [binOp, Op.shift, show ¬ y1 < 0 by omega, if_false]; rfl, .int⟩
      · cases h
    · split at h
      · cases h
        rename_i hy
        exact ⟨_, hg, by simp only [binOp, Op.shift, show ¬ y1 < 0 by omega, if_false]; rfl, .int⟩
      · cases h
    · split at h
      · rename_i hk
        subst hk
        split at h <;> first
          | (cases h; exact ⟨_, hg, by simp only [binOp, ne_eq, not_true_eq_false, if_false]; rfl, by first | exact .int | exact .bool⟩)
          | (split at h
             · cases h
             · cases h
               rename_i hz
               exact ⟨_, hg, by simp only [binOp, ne_eq, not_true_eq_false, if_false, Op.intDiv, hz]; rfl, .int⟩)
          | cases h
      · cases h
  · obtain ⟨s, rfl, rfl⟩ := str_inv hp
    obtain ⟨t', rfl, rfl⟩ := str_inv hq
    have hg : ∀ x y, (eqGuard op t x y (.string s) (.string t')).run P w = .ok () w := fun x y => by cases op <;> rfl
    split at h
    · split at h
      · cases h
        rename_i hle
        have hle' : ¬ (9223372036854775807 < (((s.size + t'.size : Nat)) : Int)) := by
          simp at hle
          simp
          omega
        refine ⟨.string (s ++ t'), hg, by simp [binOp, Op.stringOp]; omega, ?_⟩
        have : s.data.toList ++ t'.data.toList = (s ++ t').data.toList := by simp
        rw [this]
        exact .str
      · cases h
    all_goals first
      | (cases h; exact ⟨_, hg, by simp only [binOp, Op.stringOp, bytes_toList, Sem.run_pure], .bool⟩)
      | cases h
  · cases h


theorem run_equal_bool {t : TypeId} {w : World} {b1 b2 : Bool} (hu : P.underlying t = some .bool) : (Op.equal t (.bool b1) (.bool b2)).run P w = .ok (b1 == b2) w := by
  unfold Op.equal
  rw [show Op.maxDepth = 9999 + 1 from rfl]
  generalize 9999 = d
  rw [Op.equalIn]
  simp only [Sem.run_bind, run_underlying hu, Result.andThen_ok]
  rfl
theorem run_beq {t : TypeId} {w : World} {b1 b2 : Bool} (hu : P.underlying t = some .bool) : (binOp .eql t (.bool b1) (.bool b2)).run P w = .ok (.bool (b1 == b2)) w := by
  have := run_equal_bool (P := P) (w := w) (b1 := b1) (b2 := b2) hu
  show (do pure (Value.bool (← Op.equal t (.bool b1) (.bool b2))) : Sem Value).run P w = _
  simp only [Sem.run_bind, this, Result.andThen_ok]; rfl
theorem run_bne {t : TypeId} {w : World} {b1 b2 : Bool} (hu : P.underlying t = some .bool) : (binOp .neq t (.bool b1) (.bool b2)).run P w = .ok (.bool (!(b1 == b2))) w := by
  have := run_equal_bool (P := P) (w := w) (b1 := b1) (b2 := b2) hu
  show (do pure (Value.bool (!(← Op.equal t (.bool b1) (.bool b2)))) : Sem Value).run P w = _
  simp only [Sem.run_bind, this, Result.andThen_ok]; rfl

theorem pur_un {op : UnOp} {t : TypeId} {x : Operand} (h : o.op = .unOp op t x) : PurSound P call own o := by
  intro ao B k m w sl bl BL a p ns next Q hd he hl hin hn
  simp only [digOp, h] at hd
  split at hd
  · rename_i ax hx
    cases hd
    have rx := opd (a := a) (m := m) (k := k) (sl := sl) hx (fun t ht => hl t (by simp [h, Op.operands, ht]))
    simp only [evPur] at he
    split at he
    · rename_i r hr
      cases he
      unfold unP at hr
      split at hr
      · rename_i k1 n1 hp
        rw [hp] at rx
        have e1 := int_inv rx
        split at hr <;> cases hr
        · exact wp_of_run (by simp only [execOp, h, e1, Op.unary]; rfl) (hn _ _ _ _ (PurOut.same hin.frz hin.own .int))
        · exact wp_of_run (by simp only [execOp, h, e1, Op.unary]; rfl) (hn _ _ _ _ (PurOut.same hin.frz hin.own .int))
      · rename_i b1 hp
        rw [hp] at rx
        have e1 := bool_inv rx
        split at hr <;> cases hr
        exact wp_of_run (by simp only [execOp, h, e1, Op.unary]; rfl) (hn _ _ _ _ (PurOut.same hin.frz hin.own .bool))
      · cases hr
    · cases he
  · cases hd

theorem pur_ext {x : Operand} {i : Nat} (h : o.op = .extract x i) : PurSound P call own o := by
  intro ao B k m w sl bl BL a p ns next Q hd he hl hin hn
  simp only [digOp, h] at hd
  split at hd
  · rename_i ax hx
    cases hd
    have rx := opd (a := a) (m := m) (k := k) (sl := sl) hx (fun t ht => hl t (by simp [h, Op.operands, ht]))
    simp only [evPur] at he
    split at he
    · rename_i cs hp
      split at he
      · rename_i q hq
        cases he
        rw [hp] at rx
        obtain ⟨vs, e1, e2, e3⟩ := tup_inv rx
        have hlt : i < vs.size := by rw [← e2]; exact (List.getElem?_eq_some_iff.1 hq).1
        have hr := e3 i _ hq
        rw [Array.getD_eq_getD_getElem?, Array.getElem?_eq_getElem hlt] at hr
        exact wp_of_run (v := vs[i]) (by simp [execOp, h, e1, Instr.extract, Array.getElem?_eq_getElem hlt]) (hn _ _ _ _ (PurOut.same hin.frz hin.own hr))
      · cases he
    · cases he
  · cases hd

theorem aggB_run {t : TypeId} {g : Bool} {w : World} (hg : aggB P t = some g) : (isAgg t).run P w = .ok g w := by
  unfold aggB at hg
  unfold isAgg
  cases hu : P.underlying t with
  | none => rw [hu] at hg; cases hg
  | some d =>
    rw [hu] at hg
    cases d <;> simp [run_underlying hu] <;> simpa using hg.symm

/-- a part of a value by its cells -/
theorem run_part {t : TypeId} {g : Bool} {i : TypeInfo} {vs : Array Value} {off : Nat} {ps : List PV} {p : PV} {m : Mem} {k : Nat} {w : World} (hg : aggB P t = some g) (hi : P.info? t = some i) (h1 : g = true ∨ i.size = 1)
    (hl : ps.length = vs.size) (hr : ∀ j p, ps[j]? = some p → Rep m k p (vs.getD j undef)) (hle : off + i.size ≤ ps.length) (hs : scal g ((ps.drop off).take i.size) = some p) :
    ∃ v, (part t vs off).run P w = .ok v w ∧ Rep m k p v := by
  have hag := aggB_run (P := P) (w := w) hg
  have hsz : (sizeOf t).run P w = .ok i.size w := by simp [sizeOf, typeInfo, hi]
  unfold scal at hs
  cases g with
  | true =>
    simp only [if_true] at hs
    cases hs
    refine ⟨.agg (vs.extract off (off + i.size)), by simp [part, hag, hsz], .agg (by simp; omega) (fun j p hp => ?_)⟩
    rw [List.getElem?_take] at hp
    split at hp
    · rename_i hj
      rw [List.getElem?_drop] at hp
      have := hr _ _ hp
      rw [Array.getD_eq_getD_getElem?] at this ⊢
      rw [Array.getElem?_extract]
      rw [if_pos (by omega)]
      exact this
    · cases hp
  | false =>
    have h2 : i.size = 1 := by simpa using h1
    rw [h2] at hs hle
    have hlt : off < vs.size := by omega
    have hd : (ps.drop off).take 1 = [ps[off]'(by omega)] := by
      rw [List.drop_eq_getElem_cons (by omega)]; rfl
    rw [hd] at hs
    simp at hs
    subst hs
    have := hr off _ (List.getElem?_eq_getElem (by omega))
    rw [Array.getD_eq_getD_getElem?, Array.getElem?_eq_getElem hlt] at this
    exact ⟨vs[off], by simp [part, hag, Array.getElem?_eq_getElem hlt], this⟩

theorem eqL_len : ∀ {ks : List KK} {ps qs : List PV} {b : Bool}, eqL ks ps qs = some b → ps.length = ks.length ∧ qs.length = ks.length
  | [], [], [], b, h => ⟨rfl, rfl⟩
  | c :: ks, a :: as, d :: ds, b, h => by
    simp only [eqL] at h
    split at h
    · rename_i x y hx hy
      obtain ⟨h1, h2⟩ := eqL_len hy
      simp [h1, h2]
    · cases h
  | [], _ :: _, _, b, h => by simp [eqL] at h
  | [], [], _ :: _, b, h => by simp [eqL] at h
  | _ :: _, [], _, b, h => by simp [eqL] at h
  | _ :: _, _ :: _, [], b, h => by simp [eqL] at h

theorem eqL_app : ∀ {l rs : List KK} {ps qs : List PV} {b : Bool}, eqL (l ++ rs) ps qs = some b →
    ∃ b1 b2, eqL l (ps.take l.length) (qs.take l.length) = some b1 ∧ eqL rs (ps.drop l.length) (qs.drop l.length) = some b2 ∧ b = (b1 && b2)
  | [], rs, ps, qs, b, h => ⟨true, b, by simp [eqL], by simpa using h, by simp⟩
  | c :: l, rs, a :: as, d :: ds, b, h => by
    simp only [List.cons_append, eqL] at h
    split at h
    · rename_i x y hx hy
      obtain ⟨b1, b2, h1, h2, h3⟩ := eqL_app hy
      refine ⟨x && b1, b2, by simp [eqL, hx, h1], by simpa using h2, ?_⟩
      cases h
      rw [h3, Bool.and_assoc]
    · cases h
  | _ :: _, _, [], _, b, h => by simp [eqL] at h
  | _ :: _, _, _ :: _, [], b, h => by simp [eqL] at h

theorem flatT_agg {d : Nat} {t : TypeId} {ks : List KK} (h : flatT P d t = some ks) : ∃ g, aggB P t = some g ∧ (g = false → ∃ c, ks = [c] ∧ ((c = .b ∧ P.underlying t = some .bool) ∨ (c = .i ∧ ∃ k, P.underlying t = some (.int k)) ∨ (c = .s ∧ P.underlying t = some .string))) := by
  cases d with
  | zero => simp [flatT] at h
  | succ d =>
    simp only [flatT] at h
    unfold aggB
    split at h <;> rename_i hu <;> first | (rw [hu]; exact ⟨_, rfl, fun hg => by first | (cases hg; done) | (cases h; exact ⟨_, rfl, by simp [hu]⟩)⟩) | (cases h; done)

/-- leaves -/
theorem eq_run_leaf {m : Mem} {k : Nat} {w : World} {t : TypeId} {c : KK} (hc : (c = .b ∧ P.underlying t = some .bool) ∨ (c = .i ∧ ∃ k, P.underlying t = some (.int k)) ∨ (c = .s ∧ P.underlying t = some .string)) {D : Nat} {p q : PV} {u v : Value} {b : Bool}
    (hp : Rep m k p u) (hq : Rep m k q v) (h : eq1 c p q = some b) : (Op.equalIn (D + 1) t u v).run P w = .ok b w := by
  rcases hc with ⟨rfl, hu⟩ | ⟨rfl, k1, hu⟩ | ⟨rfl, hu⟩
  · cases p <;> cases q <;> simp [eq1] at h
    rw [bool_inv hp, bool_inv hq, run_equalIn_bool' w D t _ _ hu, ← h]
  · cases p <;> cases q <;> simp [eq1] at h
    obtain ⟨rfl, h⟩ := h
    rw [int_inv hp, int_inv hq, run_equalIn_int w D t _ _ _ _ hu, ← h]
  · cases p <;> cases q <;> simp [eq1] at h
    obtain ⟨s1, rfl, e1⟩ := str_inv hp
    obtain ⟨s2, rfl, e2⟩ := str_inv hq
    rw [run_equalIn_string w D t _ _ hu, bytes_toList, bytes_toList, e1, e2, ← h]

theorem stood_fields {t : TypeId} {fs : Array Field} (hu : P.underlying t = some (.struct fs)) : P.fieldsOf t = fs := by simp [Program.fieldsOf, hu]

/-- VALUES COMPARED CELL BY CELL -/
theorem eq_run : ∀ (d : Nat) (t : TypeId) (ks : List KK), flatT P d t = some ks → ∀ (D : Nat), d ≤ D → ∀ {m : Mem} {k : Nat} {w : World} {g : Bool} {ps qs : List PV} {p q : PV} {u v : Value} {b : Bool}, aggB P t = some g → scal g ps = some p → scal g qs = some q →
    Rep m k p u → Rep m k q v → eqL ks ps qs = some b → (Op.equalIn D t u v).run P w = .ok b w
  | 0, t, ks, h, D, hD, m, k, w, g, ps, qs, p, q, u, v, b, hg, h1, h2, h3, h4, h5 => by simp [flatT] at h
  | d + 1, t, ks, h, D, hD, m, k, w, g, ps, qs, p, q, u, v, b, hg, h1, h2, h3, h4, h5 => by
    obtain ⟨D, rfl⟩ : ∃ D', D = D' + 1 := ⟨D - 1, by omega⟩
    have ih := eq_run d
    obtain ⟨g', hg', hleaf⟩ := flatT_agg h
    rw [hg] at hg'
    cases hg'
    cases g with
    | false =>
      obtain ⟨c, rfl, hc⟩ := hleaf rfl
      obtain ⟨l1, l2⟩ := eqL_len h5
      match ps, qs, l1, l2 with
      | [p0], [q0], _, _ =>
        simp [scal] at h1 h2
        subst h1 h2
        simp only [eqL] at h5
        split at h5
        · rename_i x y hx hy
          cases h5
          cases hy
          rw [eq_run_leaf hc h3 h4 hx]
          simp
        · cases h5
    | true =>
      simp [scal] at h1 h2
      subst h1 h2
      obtain ⟨xs, rfl, x1, x2⟩ := agg_inv h3
      obtain ⟨ys, rfl, y1, y2⟩ := agg_inv h4
      clear hleaf h3 h4
      -- one part
      have part1 : ∀ (e : TypeId) (l : List KK) (i : TypeInfo) (off : Nat) (b1 : Bool), flatT P d e = some l → P.info? e = some i → i.size = l.length → eqL l ((ps.drop off).take l.length) ((qs.drop off).take l.length) = some b1 → off + l.length ≤ ps.length → off + l.length ≤ qs.length →
          ∃ a c, (part e xs off).run P w = .ok a w ∧ (part e ys off).run P w = .ok c w ∧ (Op.equalIn D e a c).run P w = .ok b1 w := by
        intro e l i off b1 hl hi hs hb ho1 ho2
        obtain ⟨ge, hge, hgl⟩ := flatT_agg hl
        have h1' : ge = true ∨ i.size = 1 := by
          cases ge
          · obtain ⟨c, rfl, _⟩ := hgl rfl
            exact .inr hs
          · exact .inl rfl
        have sc : ∀ (zs : List PV), off + l.length ≤ zs.length → ∃ z, scal ge ((zs.drop off).take i.size) = some z := by
          intro zs hz
          cases ge
          · obtain ⟨c, rfl, _⟩ := hgl rfl
            simp only [List.length_cons, List.length_nil] at hs hz
            rw [hs, List.drop_eq_getElem_cons (by omega)]
            exact ⟨_, rfl⟩
          · exact ⟨_, rfl⟩
        obtain ⟨z1, s1⟩ := sc ps ho1
        obtain ⟨z2, s2⟩ := sc qs ho2
        obtain ⟨a, r1, r2⟩ := run_part (P := P) (w := w) hge hi h1' x1 x2 (by omega) s1
        obtain ⟨c, r3, r4⟩ := run_part (P := P) (w := w) hge hi h1' y1 y2 (by omega) s2
        rw [hs] at s1 s2
        exact ⟨a, c, r1, r3, ih e l hl D (by omega) hge s1 s2 r2 r4 hb⟩
      simp only [flatT] at h
      split at h
      · rename_i hu; simp [aggB, hu] at hg
      · rename_i hu; simp [aggB, hu] at hg
      · rename_i hu; simp [aggB, hu] at hg
      · -- an array
        rename_i n e hu
        split at h
        · rename_i l i hl hi
          split at h
          · rename_i hs
            cases h
            have hce : P.cellsOf e = l.length := by simp [Program.cellsOf, hi, hs]
            rw [run_equalIn_array w D xs ys hu hi, hce, List.range_eq_range']
            obtain ⟨L1, L2⟩ := eqL_len h5
            have key : ∀ (r s : Nat) (b : Bool), s + r = n → eqL (List.replicate r l).flatten (ps.drop (s * l.length)) (qs.drop (s * l.length)) = some b → (Op.eqItems D e l.length xs ys (List.range' s r)).run P w = .ok b w := by
              intro r
              induction r with
              | zero =>
                intro s b hsn hb
                simp at hb
                obtain ⟨e1, e2⟩ := eqL_len hb
                have : ps.drop (s * l.length) = [] := List.length_eq_zero_iff.1 (by simpa using e1)
                have h2 : qs.drop (s * l.length) = [] := List.length_eq_zero_iff.1 (by simpa using e2)
                rw [this, h2] at hb
                simp [eqL] at hb
                subst hb
                simp [Op.eqItems]
              | succ r ihr =>
                intro s b hsn hb
                rw [List.replicate_succ, List.flatten_cons] at hb
                obtain ⟨b1, b2, e1, e2, rfl⟩ := eqL_app hb
                obtain ⟨f1, f2⟩ := eqL_len hb
                simp only [List.length_drop, List.length_append] at f1 f2
                have hlen : 0 ≤ (List.replicate r l).flatten.length := Nat.zero_le _
                obtain ⟨a, c, r1, r2, r3⟩ := part1 e l i (s * l.length) b1 hl hi hs e1 (by
                  rcases Nat.eq_zero_or_pos l.length with h0 | h0
                  · rw [h0]; simp
                  · omega) (by
                  rcases Nat.eq_zero_or_pos l.length with h0 | h0
                  · rw [h0]; simp
                  · omega)
                rw [List.range'_succ]
                simp only [Op.eqItems, Sem.run_bind, r1, r2, r3, Result.andThen_ok]
                cases b1
                · simp
                · simp only [Bool.not_true, Bool.false_eq_true, if_false, Bool.true_and]
                  refine ihr (s + 1) b2 (by omega) ?_
                  rw [List.drop_drop, List.drop_drop] at e2
                  rw [show (s + 1) * l.length = s * l.length + l.length by rw [Nat.succ_mul]]
                  exact e2
            exact key n 0 b (by omega) (by simpa using h5)
          · cases h
        · cases h
      · -- a struct
        rename_i fs hu
        split at h
        · cases h
        · rename_i hst
          have hst : P.stoodInHeld t = false := by simpa using hst
          have hf := stood_fields hu
          rw [run_equalIn_struct w D t xs ys (by rw [hf]; exact hu) hst, hf]
          have key : ∀ (fl : List Field) (off : Nat) (ks : List KK) (b : Bool), flatF P (flatT P d) fl off = some ks → eqL ks (ps.drop off) (qs.drop off) = some b → (Op.eqFields D xs ys fl).run P w = .ok b w := by
            intro fl
            induction fl with
            | nil =>
              intro off ks b hk hb
              simp [flatF] at hk
              subst hk
              obtain ⟨e1, e2⟩ := eqL_len hb
              have h1 : ps.drop off = [] := List.length_eq_zero_iff.1 (by simpa using e1)
              have h2 : qs.drop off = [] := List.length_eq_zero_iff.1 (by simpa using e2)
              rw [h1, h2] at hb
              simp [eqL] at hb
              subst hb
              simp [Op.eqFields]
            | cons f fl ihf =>
              intro off ks b hk hb
              simp only [flatF] at hk
              split at hk
              · rename_i hn
                split at hk
                · rename_i l i hl hi
                  split at hk
                  · rename_i hs
                    split at hk
                    · rename_i rs hrs
                      cases hk
                      obtain ⟨b1, b2, e1, e2, rfl⟩ := eqL_app hb
                      obtain ⟨f1, f2⟩ := eqL_len hb
                      simp only [List.length_drop, List.length_append] at f1 f2
                      have c1 := (eqL_len e1)
                      simp only [List.length_take, List.length_drop] at c1
                      obtain ⟨hn1, hn2⟩ := hn
                      subst hn2
                      obtain ⟨a, c, r1, r2, r3⟩ := part1 f.type l i f.offset b1 hl hi hs.1 e1 (by omega) (by omega)
                      simp only [Op.eqFields, ne_eq, hn1, not_false_eq_true, if_true, Sem.run_bind, r1, r2, r3, Result.andThen_ok]
                      cases b1
                      · simp
                      · simp only [Bool.not_true, Bool.false_eq_true, if_false, Bool.true_and]
                        exact ihf (f.offset + l.length) rs b2 hrs (by rw [List.drop_drop, List.drop_drop] at e2; exact e2)
                    · cases hk
                  · cases hk
                · cases hk
              · cases hk
          exact key fs.toList 0 ks b h (by simpa using h5)
      · cases h

theorem eq_run_agg {m : Mem} {k : Nat} {w : World} (d : Nat) (t : TypeId) (ks : List KK) (h : flatT P d t = some ks) (hg : aggB P t = some true) (D : Nat) (hD : d ≤ D) {xs ys : Array Value} {ps qs : List PV} {b : Bool}
    (x1 : ps.length = xs.size) (x2 : ∀ i p, ps[i]? = some p → Rep m k p (xs.getD i undef)) (y1 : qs.length = ys.size) (y2 : ∀ i p, qs[i]? = some p → Rep m k p (ys.getD i undef)) (hb : eqL ks ps qs = some b) :
    (Op.equalIn D t (.agg xs) (.agg ys)).run P w = .ok b w := eq_run d t ks h D hD hg (p := .agg ps) (q := .agg qs) rfl rfl (.agg x1 x2) (.agg y1 y2) hb

theorem slc_some {m : Mem} {k : Nat} {ex : Bool} {e : Nat} {r : List PV} {rs : List (List PV)} {v : Value} (h : Rep m k (.sl ex e (r :: rs)) v) : ∃ ad len cap, v = .slice (some ad) len cap := by
  cases h with
  | sl => exact ⟨_, _, _, rfl⟩
theorem own_some {B k : Nat} {m : Mem} {w : World} {bl BL : Blks} {ns : List Blk} {b ver lo n : Nat} {bx : Blk} {v : Value} (h : PurIn B k m w bl ns BL) (hg : getB bl b ver = some bx) (hr : Rep m k (.own b ver lo (n + 1)) v) : ∃ ad len cap, v = .slice (some ad) len cap := by
  generalize hp : PV.own b ver lo (n + 1) = p at hr
  cases hr with
  | own hb hi hv h1 ho =>
    cases hp
    obtain ⟨hbl, hver⟩ := getB_spec hg
    have hat := (h.own.at_ b bx _ (h.old hbl) hi).blk (getB_ne hg)
    rcases ho (hat.ver.trans hver) with ⟨h0, _⟩ | ⟨_, cap, e, _⟩
    · omega
    · exact ⟨_, _, _, e⟩
  | _ => cases hp
theorem nn_inv {m : Mem} {k : Nat} {v : Value} (h : Rep m k .nn v) : ∃ t x, v = .iface t x := by cases h; exact ⟨_, _, rfl⟩
theorem v_inv {m : Mem} {k : Nat} {x v : Value} (h : Rep m k (.v x) v) : v = x := by cases h; rfl
theorem run_eql_of {t : TypeId} {w : World} {u v : Value} {b : Bool} (hb : binOp .eql t u v = (do pure (Value.bool (← Op.equal t u v)))) (h : (Op.equal t u v).run P w = .ok b w) : (binOp .eql t u v).run P w = .ok (.bool b) w := by
  rw [hb]
  simp only [Sem.run_bind, h, Result.andThen_ok]; rfl
theorem run_neq_of {t : TypeId} {w : World} {u v : Value} {b : Bool} (hb : binOp .neq t u v = (do pure (Value.bool (!(← Op.equal t u v))))) (h : (Op.equal t u v).run P w = .ok b w) : (binOp .neq t u v).run P w = .ok (.bool (!b)) w := by
  rw [hb]
  simp only [Sem.run_bind, h, Result.andThen_ok]; rfl
theorem run_equal_slice {t e : TypeId} {w : World} {ad : Addr} {n c : Nat} (hu : P.underlying t = some (.slice e)) : (Op.equal t (.slice (some ad) n c) (.slice none 0 0)).run P w = .ok false w := by
  unfold Op.equal
  rw [show Op.maxDepth = 9999 + 1 from rfl]
  generalize 9999 = d
  rw [Op.equalIn]
  simp only [Sem.run_bind, run_underlying hu, Result.andThen_ok]
  rfl
theorem run_equal_sliceN {t e : TypeId} {w : World} (hu : P.underlying t = some (.slice e)) : (Op.equal t (.slice none 0 0) (.slice none 0 0)).run P w = .ok true w := by
  unfold Op.equal
  rw [show Op.maxDepth = 9999 + 1 from rfl]
  generalize 9999 = d
  rw [Op.equalIn]
  simp only [Sem.run_bind, run_underlying hu, Result.andThen_ok]
  rfl
theorem run_equal_nil {t : TypeId} {w : World} {ms : Array (String × TypeId)} (hu : P.underlying t = some (.interface ms)) : (Op.equal t .nilIface .nilIface).run P w = .ok true w := by
  unfold Op.equal
  rw [show Op.maxDepth = 9999 + 1 from rfl]
  generalize 9999 = d
  rw [Op.equalIn]
  simp only [Sem.run_bind, run_underlying hu, Result.andThen_ok]
  rfl
theorem run_equal_some {t : TypeId} {w : World} {ms : Array (String × TypeId)} {ti : TypeId} {xx : Value} (hu : P.underlying t = some (.interface ms)) : (Op.equal t (.iface ti xx) .nilIface).run P w = .ok false w := by
  unfold Op.equal
  rw [show Op.maxDepth = 9999 + 1 from rfl]
  generalize 9999 = d
  rw [Op.equalIn]
  simp only [Sem.run_bind, run_underlying hu, Result.andThen_ok]
  rfl
theorem pur_bin {op : BinOp} {t : TypeId} {x y : Operand} {t2 : TypeId} (h : o.op = .binOp op t x y t2) : PurSound P call own o := by
  intro ao B k m w sl bl BL a p ns next Q hd he hl hin hn
  simp only [digOp, h] at hd
  split at hd
  · rename_i s hnt
    have main : ∀ neg ax, op = (if neg then .neq else .eql) → digV x = some ax → ao = .nilq s neg ax → o.wp P a w next Q := by
      intro neg ax hop hx hao
      subst hao
      have rx := opd (a := a) (m := m) (k := k) (sl := sl) hx (fun t ht => hl t (by simp [h, Op.operands, ht]))
      have key : ∀ b, (binOp .eql t (a.eval x) (a.eval y) = (do pure (Value.bool (← Op.equal t (a.eval x) (a.eval y))))) → (binOp .neq t (a.eval x) (a.eval y) = (do pure (Value.bool (!(← Op.equal t (a.eval x) (a.eval y)))))) → (Op.equal t (a.eval x) (a.eval y)).run P w = .ok b w → (∀ op', (eqGuard op' t x y (a.eval x) (a.eval y)).run P w = .ok () w) → p = .bool (if neg then !b else b) → ns = [] → o.wp P a w next Q := by
        intro b hb1 hb2 hb hg hp hns
        subst hp hns
        refine wp_of_run (v := .bool (if neg then !b else b)) ?_ (hn _ _ _ _ (PurOut.same hin.frz hin.own .bool))
        cases neg
        · simp only [Bool.false_eq_true, if_false] at hop ⊢
          subst hop
          simp [execOp, h, hg, run_eql_of hb1 hb]
        · simp only [if_true] at hop ⊢
          subst hop
          simp [execOp, h, hg, run_neq_of hb2 hb]
      simp only [evPur] at he
      split at he
      · rename_i ex e0 r rs hv
        cases he
        obtain ⟨rfl, e, hu⟩ := nilT_slice hnt
        rw [hv] at rx
        obtain ⟨ad, len, cap, hvl⟩ := slc_some rx
        refine key false (by rw [hvl]; rfl) (by rw [hvl]; rfl) ?_ (fun op' => ?_) (by cases neg <;> rfl) rfl
        · rw [hvl]; exact run_equal_slice hu
        · rw [hvl]; cases op' <;> rfl
      · rename_i hv
        cases he
        obtain ⟨rfl, e, hu⟩ := nilT_slice hnt
        rw [hv] at rx
        have e1 := v_inv rx
        refine key true (by rw [e1]; rfl) (by rw [e1]; rfl) ?_ (fun op' => ?_) (by cases neg <;> rfl) rfl
        · rw [e1]; exact run_equal_sliceN hu
        · rw [e1]; cases op' <;> rfl
      · rename_i b0 ver0 lo0 n0 hv
        split at he
        · rename_i bx hgb
          cases he
          obtain ⟨rfl, e, hu⟩ := nilT_slice hnt
          rw [hv] at rx
          obtain ⟨ad, len, cap, hvl⟩ := own_some hin hgb rx
          refine key false (by rw [hvl]; rfl) (by rw [hvl]; rfl) ?_ (fun op' => ?_) (by cases neg <;> rfl) rfl
          · rw [hvl]; exact run_equal_slice hu
          · rw [hvl]; cases op' <;> rfl
        · cases he
      · rename_i hv
        cases he
        obtain ⟨rfl, ms, hu⟩ := nilT_iface hnt
        rw [hv] at rx
        have e1 := v_inv rx
        refine key true (by rw [e1]; rfl) (by rw [e1]; rfl) ?_ (fun op' => ?_) (by cases neg <;> rfl) rfl
        · rw [e1]; exact run_equal_nil hu
        · rw [e1]; cases x <;> cases op' <;> rfl
      · rename_i ti xx hv
        cases he
        obtain ⟨rfl, ms, hu⟩ := nilT_iface hnt
        rw [hv] at rx
        have e1 := v_inv rx
        refine key false (by rw [e1]; rfl) (by rw [e1]; rfl) ?_ (fun op' => ?_) (by cases neg <;> rfl) rfl
        · rw [e1]; exact run_equal_some hu
        · rw [e1]; cases op' <;> rfl
      · rename_i hv
        cases he
        obtain ⟨rfl, ms, hu⟩ := nilT_iface hnt
        rw [hv] at rx
        obtain ⟨ti, xx, e1⟩ := nn_inv rx
        refine key false (by rw [e1]; rfl) (by rw [e1]; rfl) ?_ (fun op' => ?_) (by cases neg <;> rfl) rfl
        · rw [e1]; exact run_equal_some hu
        · rw [e1]; cases op' <;> rfl
      · cases he
    split at hd
    · cases hd; exact main false _ rfl (by assumption) rfl
    · cases hd; exact main true _ rfl (by assumption) rfl
    · cases hd
  split at hd
  · rename_i ax ay hx hy hu
    have rx := opd (a := a) (m := m) (k := k) (sl := sl) hx (fun t ht => hl t (by simp [h, Op.operands, ht]))
    have ry := opd (a := a) (m := m) (k := k) (sl := sl) hy (fun t ht => hl t (by simp [h, Op.operands, ht]))
    have main : ∀ neg, op = (if neg then .neq else .eql) → ao = .beq neg ax ay → o.wp P a w next Q := by
      intro neg hop hao
      subst hao
      simp only [evPur] at he
      split at he
      · rename_i b1 b2 h1 h2
        cases he
        rw [h1] at rx
        rw [h2] at ry
        have e1 := bool_inv rx
        have e2 := bool_inv ry
        refine wp_of_run (v := .bool (if neg then !(b1 == b2) else b1 == b2)) ?_ (hn _ _ _ _ (PurOut.same hin.frz hin.own .bool))
        have g1 : ∀ op', (eqGuard op' t x y (.bool b1) (.bool b2)).run P w = .ok () w := fun op' => by cases op' <;> rfl
        cases neg
        · simp only [Bool.false_eq_true, if_false] at hop ⊢
          subst hop
          simp [execOp, h, e1, e2, g1, run_beq hu]
        · simp only [if_true] at hop ⊢
          subst hop
          simp [execOp, h, e1, e2, g1, run_bne hu]
      · cases he
    split at hd
    · cases hd; exact main false rfl rfl
    · cases hd; exact main true rfl rfl
    · cases hd
  · rename_i ax ay d hnb hx hy hu
    have rx := opd (a := a) (m := m) (k := k) (sl := sl) hx (fun t ht => hl t (by simp [h, Op.operands, ht]))
    have ry := opd (a := a) (m := m) (k := k) (sl := sl) hy (fun t ht => hl t (by simp [h, Op.operands, ht]))
    split at hd
    · rename_i hag
      split at hd
      · rename_i ks hks
        split at hd
        · cases hd
        · rename_i hgd
          have hgd : P.eqGuardType P.depth t = false := by simpa using hgd
          have main : ∀ neg, op = (if neg then .neq else .eql) → ao = .beqA neg ks ax ay → o.wp P a w next Q := by
            intro neg hop hao
            subst hao
            simp only [evPur] at he
            split at he
            · rename_i ps qs h1 h2
              split at he
              · rename_i b hb
                cases he
                rw [h1] at rx
                rw [h2] at ry
                obtain ⟨xs, e1, x1, x2⟩ := agg_inv rx
                obtain ⟨ys, e2, y1, y2⟩ := agg_inv ry
                have hrun := eq_run_agg (w := w) 8 t ks hks hag 10000 (by omega) x1 x2 y1 y2 hb
                refine wp_of_run (v := .bool (if neg then !b else b)) ?_ (hn _ _ _ _ (PurOut.same hin.frz hin.own .bool))
                have g1 : ∀ op', (eqGuard op' t x y (.agg xs) (.agg ys)).run P w = .ok () w := fun op' => run_eqGuard_agg (P := P) w op' t x y xs ys hgd
                cases neg
                · simp only [Bool.false_eq_true, if_false] at hop ⊢
                  subst hop
                  simp [execOp, h, e1, e2, g1, run_eql_struct, hrun]
                · simp only [if_true] at hop ⊢
                  subst hop
                  simp [execOp, h, e1, e2, g1, run_neq_struct, hrun]
              · cases he
            · cases he
          split at hd
          · cases hd; exact main false rfl rfl
          · cases hd; exact main true rfl rfl
          · cases hd
      · cases hd
    · cases hd
      simp only [evPur] at he
      split at he
      · rename_i r hr
        cases he
        obtain ⟨z, h1, h2, h3⟩ := binP_run (t := t) (P := P) (w := w) hr rx ry
        exact wp_of_run (v := z) (by simp [execOp, h, h1 x y, h2]) (hn _ _ _ _ (PurOut.same hin.frz hin.own h3))
      · cases he
  · cases hd

theorem pur_fld {t : TypeId} {x : Operand} {f : Nat} (h : o.op = .field t x f) : PurSound P call own o := by
  intro ao B k m w sl bl BL a p ns next Q hd he hl hin hn
  simp only [digOp, h] at hd
  split at hd
  · rename_i fs ax hu hx
    have rx := opd (a := a) (m := m) (k := k) (sl := sl) hx (fun t ht => hl t (by simp [h, Op.operands, ht]))
    split at hd
    · rename_i fd hf
      split at hd
      · rename_i g i hg hi
        split at hd
        · rename_i h1
          cases hd
          simp only [evPur] at he
          split at he
          · rename_i cs hp
            split at he
            · rename_i hle
              split at he
              · rename_i q hq
                cases he
                rw [hp] at rx
                obtain ⟨vs, e1, e2, e3⟩ := agg_inv rx
                obtain ⟨v, hv, hr⟩ := run_part (P := P) (w := w) hg hi h1 e2 e3 hle hq
                exact wp_of_run (v := v) (by simp [execOp, h, e1, Instr.field, run_underlying hu, hf, asAgg, hv]) (hn _ _ _ _ (PurOut.same hin.frz hin.own hr))
              · cases he
            · cases he
          · cases he
        · cases hd
      · cases hd
    · cases hd
  · cases hd

theorem pur_idx {t : TypeId} {x y : Operand} (h : o.op = .index t x y) : PurSound P call own o := by
  intro ao B k m w sl bl BL a p ns next Q hd he hl hin hn
  simp only [digOp, h] at hd
  split at hd
  · rename_i ax ay hu hx hy
    cases hd
    have rx := opd (a := a) (m := m) (k := k) (sl := sl) hx (fun t ht => hl t (by simp [h, Op.operands, ht]))
    have ry := opd (a := a) (m := m) (k := k) (sl := sl) hy (fun t ht => hl t (by simp [h, Op.operands, ht]))
    simp only [evPur] at he
    split at he
    · rename_i s j i hs hj
      split at he
      · rename_i h0
        split at he
        · rename_i b hb
          cases he
          rw [hs] at rx
          rw [hj] at ry
          obtain ⟨s', e1, e2⟩ := str_inv rx
          have e3 := int_inv ry
          have hb' : s'[i.toNat]? = some b := by
            rw [← e2] at hb
            simp only [Array.getElem?_toList] at hb
            have hlt := (Array.getElem?_eq_some_iff.1 hb)
            obtain ⟨h1, h2⟩ := hlt
            simp only [getElem?_def]
            rw [dif_pos (show i.toNat < s'.size from h1)]
            congr 1
          refine wp_of_run (v := .int .u8 (b.toNat : Int)) ?_ (hn _ _ _ _ (PurOut.same hin.frz hin.own .int))
          simp [execOp, h, e1, e3, Instr.index, asIntOf, run_underlying hu, h0, hb']
        · cases he
      · cases he
    · cases he
  · rename_i n e ax ay hu hx hy
    split at hd
    · rename_i g ti hg hi
      split at hd
      · rename_i h1
        cases hd
        have rx := opd (a := a) (m := m) (k := k) (sl := sl) hx (fun t ht => hl t (by simp [h, Op.operands, ht]))
        have ry := opd (a := a) (m := m) (k := k) (sl := sl) hy (fun t ht => hl t (by simp [h, Op.operands, ht]))
        simp only [evPur] at he
        split at he
        · rename_i cs j i hs hj
          split at he
          · rename_i hc
            split at he
            · rename_i q hq
              cases he
              rw [hs] at rx
              rw [hj] at ry
              obtain ⟨vs, e1, e2, e3⟩ := agg_inv rx
              have e4 := int_inv ry
              obtain ⟨v, hv, hr⟩ := run_part (P := P) (w := w) hg hi h1 e2 e3 hc.2.2 hq
              have hsz : (sizeOf e).run P w = .ok ti.size w := by simp [sizeOf, typeInfo, hi]
              refine wp_of_run (v := v) ?_ (hn _ _ _ _ (PurOut.same hin.frz hin.own hr))
              have hb : 0 ≤ i ∧ i < (n : Int) := ⟨hc.1, by have := hc.2.1; omega⟩
              simp [execOp, h, e1, e4, Instr.index, asIntOf, run_underlying hu, hb, hsz, hv]
            · cases he
          · cases he
        · cases he
      · cases hd
    · cases hd
  · cases hd

theorem pur_mkfn {fn : Fn} {first caps : Array Operand} (h : o.op = .makeFunc fn first caps) : PurSound P call own o := by
  intro ao B k m w sl bl BL a p ns next Q hd he hl hin hn
  simp only [digOp, h] at hd
  split at hd
  · rename_i g cs hf hc
    cases hd
    simp [evPur] at he
    obtain ⟨rfl, rfl⟩ := he
    have hfirst : first = #[] := by simpa using hf
    subst hfirst
    have key : ∀ (l : List Operand) (cs : List AO), (∀ x ∈ l, x ∈ caps.toList) → digL l = some cs → cs.length = l.length ∧ ∀ (i : Nat) (p : PV), (cs.map (·.ev sl))[i]? = some p → Rep m k p ((l.map a.eval).getD i undef) := by
      intro l
      induction l with
      | nil => intro cs _ hc; simp [digL] at hc; subst hc; exact ⟨rfl, fun i p hp => by simp at hp⟩
      | cons x r ih =>
        intro cs hm hc
        simp only [digL] at hc
        split at hc
        · rename_i ax axs h1 h2
          cases hc
          obtain ⟨e1, e2⟩ := ih axs (fun y hy => hm y (by simp [hy])) h2
          refine ⟨by simp [e1], fun i p hp => ?_⟩
          cases i with
          | zero =>
            simp at hp
            subst hp
            simp
            exact opd h1 (fun t ht => hl t (by
              have := hm x (by simp)
              simp only [h, Op.operands]
              subst ht
              simp at this
              simpa using this))
          | succ i => simpa using e2 i p (by simpa using hp)
        · cases hc
    obtain ⟨e1, e2⟩ := key caps.toList cs (fun _ h => h) hc
    refine wp_of_run (v := .func (.func g) #[] (caps.map a.eval)) (by simp [execOp, h, Instr.makeFunc]) (hn _ _ _ _ (PurOut.same hin.frz hin.own (.fn (by simp [e1]) (fun i p hp => ?_))))
    have := e2 i p hp
    have e3 : (caps.map a.eval).getD i undef = (caps.toList.map a.eval).getD i undef := by
      rw [Array.getD_eq_getD_getElem?, List.getD_eq_getElem?_getD]; simp
    rw [e3]; exact this
  · cases hd

end

end Go.Proofs.YtidkdiooempkpaaDoor
/- The operations that change no block: those that read memory. -/
namespace Go.Proofs.YtidkdiooempkpaaDoor
open Go Go.RowKit
set_option linter.unusedSectionVars false
variable [Bs]
set_option linter.unusedVariables false
set_option linter.unusedSimpArgs false

section
variable {P : Program} {call : Cl} {own : List Nat} {o : Oper}

theorem own_inv {m : Mem} {k b ver lo len : Nat} {v : Value} (h : Rep m k (.own b ver lo len) v) : ∃ i, b < k ∧ m.blk b = some i ∧ ver ≤ i.ver ∧ v.oneCell' = true ∧ (i.ver = ver → OwnVal i lo len v) := by
  generalize hp : PV.own b ver lo len = p at h
  cases h <;> first | (cases hp; exact ⟨_, by assumption, by assumption, by assumption, by assumption, by assumption⟩) | cases hp
theorem ptr_inv {m : Mem} {k b ver r off : Nat} {v : Value} (h : Rep m k (.ptr b ver r off) v) : ∃ i, b < k ∧ m.blk b = some i ∧ ver ≤ i.ver ∧ v.oneCell' = true ∧ (i.ver = ver → i.virt = false → v = .pointer (some ⟨i.g, r * i.e + off, none⟩)) := by
  generalize hp : PV.ptr b ver r off = p at h
  cases h <;> first | (cases hp; exact ⟨_, by assumption, by assumption, by assumption, by assumption, by assumption⟩) | cases hp
theorem nilS_inv {m : Mem} {k : Nat} {v : Value} (h : Rep m k .nilS v) : ∃ a, v = .slice a 0 0 := by
  generalize hp : PV.nilS = p at h
  cases h <;> first | (cases hp; exact ⟨_, rfl⟩) | cases hp
theorem fn_inv {m : Mem} {k f : Nat} {ps : List PV} {v : Value} (h : Rep m k (.fn f ps) v) : ∃ vs, v = .func (.func f) #[] vs ∧ ps.length = vs.size ∧ ∀ i p, ps[i]? = some p → Rep m k p (vs.getD i undef) := by
  generalize hp : PV.fn f ps = p at h
  cases h <;> first | (cases hp; exact ⟨_, rfl, by assumption, by assumption⟩) | cases hp
theorem cptr_inv {m : Mem} {k : Nat} {cells : List PV} {v : Value} (h : Rep m k (.cptr cells) v) : ∃ b off, v = .pointer (some ⟨b, off, none⟩) ∧ ∀ j p, cells[j]? = some p → ∃ u, m.cell b (off + j) = some u ∧ Rep m 0 p u := by
  generalize hp : PV.cptr cells = p at h
  cases h with
  | cptr h1 h2 => cases hp; exact ⟨_, _, rfl, fun j p hj => ⟨_, h1 j p hj, h2 j p hj⟩⟩
  | _ => cases hp
theorem sl_inv {m : Mem} {k : Nat} {ex : Bool} {e : Nat} {rows : List (List PV)} {v : Value} (h : Rep m k (.sl ex e rows) v) :
    ∃ base cap, v = .slice base rows.length cap ∧ rows.length ≤ cap ∧ cap ≤ maxLen ∧ (ex = true → cap = rows.length) ∧ (rows = [] ∨ ∃ b off, base = some ⟨b, off, none⟩ ∧ (∀ r ∈ rows, r.length = e) ∧
      ∀ i row j p, rows[i]? = some row → row[j]? = some p → ∃ u, m.cell b (off + i * e + j) = some u ∧ Rep m 0 p u) := by
  generalize hp : PV.sl ex e rows = p at h
  cases h with
  | sl h1 h2 h3 h4 h5 h6 => cases hp; exact ⟨_, _, rfl, h1, h2, h3, .inr ⟨_, _, rfl, h4, fun i row j p hr hj => ⟨_, h5 i j row p hr hj, h6 i j row p hr hj⟩⟩⟩
  | slz h1 h2 => cases hp; exact ⟨_, _, rfl, Nat.zero_le _, h1, by simpa using h2, .inl rfl⟩
  | _ => cases hp

/-- the block that a reference is to -/
theorem blk_of {B k : Nat} {m : Mem} {w : World} {bl BL : Blks} {ns : List Blk} (h : PurIn B k m w bl ns BL) {b ver : Nat} {x : Blk} {i : Info} (hg : getB bl b ver = some x) (hi : m.blk b = some i) : BlkAt m k w i x ∧ i.ver = ver := by
  obtain ⟨hbl, hver⟩ := getB_spec hg
  have hat := (h.own.at_ b x i (h.old hbl) hi).blk (getB_ne hg)
  exact ⟨hat, hat.ver.trans hver⟩

theorem pur_load {t : TypeId} {x : Operand} (h : o.op = .load t x) : PurSound P call own o := by
  intro ao B k m w sl bl BL a p ns next Q hd he hl hin hn
  simp only [digOp, h] at hd
  split at hd
  · rename_i ax g i hx hg hi
    split at hd
    · rename_i h1
      cases hd
      have rx := opdA hin.frz (a := a) (m := m) (k := k) (sl := sl) hx (fun t ht => hl t (by simp [h, Op.operands, ht]))
      simp only [evPur] at he
      split at he
      · rename_i b ver r off hp
        split at he
        · rename_i bx hgb
          split at he
          · rename_i row hrow
            split at he
            · rename_i hle
              split at he
              · rename_i q hq
                cases he
                rw [hp] at rx
                obtain ⟨inf, h2, h3, h4, h5, h6⟩ := ptr_read hin rx hgb hrow
                obtain ⟨cs, c1, c2, c3⟩ := read_cells (m := m) (k := k) (w := w) (ps := (row.drop off).take i.size) (b := inf.g) (off := r * bx.e + off) (fun j q hq => by
                  rw [List.getElem?_take] at hq
                  split at hq
                  · rw [List.getElem?_drop] at hq
                    rw [Nat.add_assoc]
                    exact h6 _ q hq
                  · cases hq)
                have hlen : ((row.drop off).take i.size).length = i.size := by simp; omega
                exact wp_of_run (by simp only [execOp, h, h5]; exact run_value (run_loadAt hg hi (c1.trans hlen) (fun j u hu => (c2 j u hu).1) h1)) (hn _ _ _ _ (PurOut.same hin.frz hin.own (scal_rep hq c1 c3)))
              · cases he
            · cases he
          · cases he
        · cases he
      · rename_i cells hp
        split at he
        · rename_i hle
          split at he
          · rename_i q hq
            cases he
            rw [hp] at rx
            obtain ⟨b, off, h5, h6⟩ := cptr_inv rx
            obtain ⟨cs, c1, c2, c3⟩ := read_cells (m := m) (k := k) (w := w) (ps := cells.take i.size) (b := b) (off := off) (fun j q hq => by
              rw [List.getElem?_take] at hq
              split at hq
              · obtain ⟨u, hu, hr⟩ := h6 _ q hq
                exact ⟨u, (hin.frz.1 _ _ _ hu).1, (hin.frz.1 _ _ _ hu).2, hr.up (Nat.zero_le _)⟩
              · cases hq)
            have hlen : (cells.take i.size).length = i.size := by simp; omega
            exact wp_of_run (by simp only [execOp, h, h5]; exact run_value (run_loadAt hg hi (c1.trans hlen) (fun j u hu => (c2 j u hu).1) h1)) (hn _ _ _ _ (PurOut.same hin.frz hin.own (scal_rep hq c1 c3)))
          · cases he
        · cases he
      · cases he
    · cases hd
  · cases hd

/-- a value read through a pointer -/
theorem load_run {B k : Nat} {m : Mem} {w : World} {bl BL : Blks} {ns : List Blk} (hin : PurIn B k m w bl ns BL) {t : TypeId} {g : Bool} {i : TypeInfo} (hg : aggB P t = some g) (hi : P.info? t = some i) (h1 : g = true ∨ i.size = 1)
    {p q : PV} {v : Value} (rx : Rep m k p v) (he : loadP bl i.size g p = some q) : ∃ u, (Instr.loadAt t v).run P w = .ok u w ∧ Rep m k q u := by
  unfold loadP at he
  split at he
  · rename_i b ver r off
    split at he
    · rename_i bx hgb
      split at he
      · rename_i row hrow
        split at he
        · rename_i hle
          obtain ⟨inf, h2, h3, h4, h5, h6⟩ := ptr_read hin rx hgb hrow
          obtain ⟨cs, c1, c2, c3⟩ := read_cells (m := m) (k := k) (w := w) (ps := (row.drop off).take i.size) (b := inf.g) (off := r * bx.e + off) (fun j q hq => by
            rw [List.getElem?_take] at hq
            split at hq
            · rw [List.getElem?_drop] at hq
              rw [Nat.add_assoc]
              exact h6 _ q hq
            · cases hq)
          have hlen : ((row.drop off).take i.size).length = i.size := by simp; omega
          rw [h5]
          exact ⟨_, run_loadAt hg hi (c1.trans hlen) (fun j u hu => (c2 j u hu).1) h1, scal_rep he c1 c3⟩
        · cases he
      · cases he
    · cases he
  · rename_i cells
    split at he
    · rename_i hle
      obtain ⟨b, off, h5, h6⟩ := cptr_inv rx
      obtain ⟨cs, c1, c2, c3⟩ := read_cells (m := m) (k := k) (w := w) (ps := cells.take i.size) (b := b) (off := off) (fun j q hq => by
        rw [List.getElem?_take] at hq
        split at hq
        · obtain ⟨u, hu, hr⟩ := h6 _ q hq
          exact ⟨u, (hin.frz.1 _ _ _ hu).1, (hin.frz.1 _ _ _ hu).2, hr.up (Nat.zero_le _)⟩
        · cases hq)
      have hlen : (cells.take i.size).length = i.size := by simp; omega
      rw [h5]
      exact ⟨_, run_loadAt hg hi (c1.trans hlen) (fun j u hu => (c2 j u hu).1) h1, scal_rep he c1 c3⟩
    · cases he
  · cases he

theorem pur_nilck {x : Operand} (h : o.op = .nilCheck x) : PurSound P call own o := by
  intro ao B k m w sl bl BL a p ns next Q hd he hl hin hn
  simp only [digOp, h] at hd
  split at hd
  · rename_i ax hx
    cases hd
    have rx := opd (a := a) (m := m) (k := k) (sl := sl) hx (fun t ht => hl t (by simp [h, Op.operands, ht]))
    simp only [evPur] at he
    split at he
    · rename_i b ver r off hp
      split at he
      · rename_i bx hgb
        split at he
        · rename_i row hrow
          cases he
          have rx' := rx
          rw [hp] at rx'
          obtain ⟨i, h1, h2, h3, h4, h5⟩ := ptr_read hin rx' hgb hrow
          exact wp_of_run (v := a.eval x) (by simp only [execOp, h, h4]; rfl) (hn _ _ _ _ (PurOut.same hin.frz hin.own rx'))
        · cases he
      · cases he
    · rename_i cells hp
      cases he
      have rx' := rx
      rw [hp] at rx'
      obtain ⟨b, off, h5, _⟩ := cptr_inv rx'
      exact wp_of_run (v := a.eval x) (by simp only [execOp, h, h5]; rfl) (hn _ _ _ _ (PurOut.same hin.frz hin.own rx'))
    · rename_i f caps hp
      cases he
      have rx' := rx
      rw [hp] at rx'
      obtain ⟨vs, h5, _⟩ := fn_inv rx'
      exact wp_of_run (v := a.eval x) (by simp only [execOp, h, h5]; rfl) (hn _ _ _ _ (PurOut.same hin.frz hin.own rx'))
    · cases he
  · cases hd

theorem run_fieldAt {t : TypeId} {fs : Array Field} {f : Nat} {fd : Field} {i : TypeInfo} {b off : Nat} {w : World} (hu : P.underlying t = some (.struct fs)) (hf : fs[f]? = some fd) (hi : P.info? fd.type = some i) (h0 : i.size ≠ 0) :
    (Instr.fieldAt t (.pointer (some ⟨b, off, none⟩)) f).run P w = .ok (.pointer (some ⟨b, off + fd.offset, none⟩)) w := by
  have hsz : (sizeOf fd.type).run P w = .ok i.size w := by simp [sizeOf, typeInfo, hi]
  simp [Instr.fieldAt, run_underlying hu, hf, Instr.sureAddr, fieldPlace, Addr.add_lit, hsz, h0]

theorem rep_ptr_off {m : Mem} {k b ver r off d : Nat} {i : Info} {v : Value} {x : Blk} (hr : Rep m k (.ptr b ver r off) v) (hi : m.blk b = some i) (hv : i.virt = false) (he : i.e = x.e) :
    Rep m k (.ptr b ver r (off + d)) (.pointer (some ⟨i.g, r * x.e + off + d, none⟩)) := by
  obtain ⟨i', h1, h2, h3, h4, h5⟩ := ptr_inv hr
  rw [hi] at h2
  cases h2
  exact .ptr h1 hi h3 rfl (fun _ _ => by rw [he, Nat.add_assoc])

theorem rep_cptr_off {m : Mem} {k : Nat} {cells : List PV} {b off d : Nat} (h6 : ∀ j p, cells[j]? = some p → ∃ u, m.cell b (off + j) = some u ∧ Rep m 0 p u) : Rep m k (.cptr (cells.drop d)) (.pointer (some ⟨b, off + d, none⟩)) := by
  refine .cptr (vals := fun j => (m.cell b (off + d + j)).getD undef) (fun j p hj => ?_) (fun j p hj => ?_)
  all_goals
    rw [List.getElem?_drop] at hj
    obtain ⟨u, hu, hr⟩ := h6 _ p hj
    rw [← Nat.add_assoc] at hu
  · simp [hu]
  · simpa [hu] using hr

theorem pur_faddr {t : TypeId} {x : Operand} {f : Nat} (h : o.op = .fieldAddr t x f) : PurSound P call own o := by
  intro ao B k m w sl bl BL a p ns next Q hd he hl hin hn
  simp only [digOp, h] at hd
  split at hd
  · rename_i fs ax hu hx
    have rx := opd (a := a) (m := m) (k := k) (sl := sl) hx (fun t ht => hl t (by simp [h, Op.operands, ht]))
    split at hd
    · rename_i fd hf
      split at hd
      · rename_i i hi
        split at hd
        · cases hd
        · rename_i h0
          cases hd
          simp only [evPur] at he
          split at he
          · rename_i b ver r off hp
            split at he
            · rename_i bx hgb
              split at he
              · rename_i row hrow
                cases he
                rw [hp] at rx
                obtain ⟨inf, h1, h2, h3, h4, h5⟩ := ptr_read hin rx hgb hrow
                exact wp_of_run (by simp only [execOp, h, h4]; exact run_value (run_fieldAt hu hf hi h0)) (hn _ _ _ _ (PurOut.same hin.frz hin.own (rep_ptr_off rx h1 h3 h2.e)))
              · cases he
            · cases he
          · rename_i cells hp
            cases he
            rw [hp] at rx
            obtain ⟨b, off, h5, h6⟩ := cptr_inv rx
            exact wp_of_run (by simp only [execOp, h, h5]; exact run_value (run_fieldAt hu hf hi h0)) (hn _ _ _ _ (PurOut.same hin.frz hin.own (rep_cptr_off h6)))
          · cases he
      · cases hd
    · cases hd
  · cases hd

theorem pur_iaddr {t : TypeId} {x y : Operand} (h : o.op = .indexAddr t x y) : PurSound P call own o := by
  intro ao B k m w sl bl BL a p ns next Q hd he hl hin hn
  simp only [digOp, h] at hd
  split at hd
  · rename_i e ax ay hu hx hy
    split at hd
    · rename_i ti hi
      cases hd
      have rx := opdA hin.frz (a := a) (m := m) (k := k) (sl := sl) hx (fun t ht => hl t (by simp [h, Op.operands, ht]))
      have ry := opd (a := a) (m := m) (k := k) (sl := sl) hy (fun t ht => hl t (by simp [h, Op.operands, ht]))
      have hsz : (sizeOf e).run P w = .ok ti.size w := by simp [sizeOf, typeInfo, hi]
      simp only [evPur] at he
      split at he
      · rename_i j i hj
        split at he
        · rename_i h0
          rw [hj] at ry
          have ey := int_inv ry
          have run : ∀ (b off len cap : Nat), a.eval x = .slice (some ⟨b, off, none⟩) len cap → i.toNat < len → (execOp a.eval o).run P w = .ok (.value (.pointer (some ⟨b, off + i.toNat * ti.size, none⟩))) w := by
            intro b off len cap hxv hlt
            have hlt' : 0 ≤ i ∧ i < (len : Int) := ⟨h0, by omega⟩
            simp [execOp, h, hxv, ey, Instr.indexAt, asIntOf, run_underlying hu, hlt', hsz, Addr.add_lit]
          split at he
          · rename_i ex e' rows hp
            split at he
            · rename_i hee
              split at he
              · rename_i row hrow
                cases he
                rw [hp] at rx
                obtain ⟨base, cap, e1, e2, e3, e4, e5⟩ := sl_inv rx
                rcases e5 with e5 | ⟨b, off, rfl, e6, e7⟩
                · subst e5; simp at hrow
                · have hlt := (List.getElem?_eq_some_iff.1 hrow).1
                  subst hee
                  exact wp_of_run (run _ _ _ _ e1 hlt) (hn _ _ _ _ (PurOut.same hin.frz hin.own (by
                    have := rep_cptr_off (m := m) (k := k) (cells := row) (b := b) (off := off + i.toNat * ti.size) (d := 0) (fun j p hj => e7 _ row j p hrow hj)
                    simpa using this)))
              · cases he
            · cases he
          · rename_i b ver lo len hp
            split at he
            · rename_i bx hgb
              split at he
              · rename_i hlt
                cases he
                rw [hp] at rx
                obtain ⟨inf, h1, h2, h3, h4, h5⟩ := own_inv rx
                obtain ⟨hat, hver⟩ := blk_of hin hgb h2
                rcases h5 hver with ⟨hz, hz2, _⟩ | ⟨hv, cap, h6, h7, h8, h9⟩
                · omega
                · have hee : inf.e = ti.size := hat.e.trans hlt.2.2
                  refine wp_of_run (run _ _ _ _ h6 hlt.1) (hn _ _ _ _ (PurOut.same hin.frz hin.own (.ptr h1 h2 h3 rfl (fun _ _ => ?_))))
                  rw [hee, Nat.add_mul]; rfl
              · cases he
            · cases he
          · cases he
        · cases he
      · cases he
    · cases hd
  · rename_i n e ax ay hu hx hy
    split at hd
    · rename_i ti hi
      cases hd
      have rx := opdA hin.frz (a := a) (m := m) (k := k) (sl := sl) hx (fun t ht => hl t (by simp [h, Op.operands, ht]))
      have ry := opd (a := a) (m := m) (k := k) (sl := sl) hy (fun t ht => hl t (by simp [h, Op.operands, ht]))
      have hsz : (sizeOf e).run P w = .ok ti.size w := by simp [sizeOf, typeInfo, hi]
      simp only [evPur] at he
      split at he
      · rename_i j i hj
        split at he
        · rename_i h0
          rw [hj] at ry
          have ey := int_inv ry
          split at he
          · rename_i hlt
            have run : ∀ (b off : Nat), a.eval x = .pointer (some ⟨b, off, none⟩) → (execOp a.eval o).run P w = .ok (.value (.pointer (some ⟨b, off + i.toNat * ti.size, none⟩))) w := by
              intro b off hxv
              have hlt' : 0 ≤ i ∧ i < (n : Int) := ⟨h0, by omega⟩
              simp [execOp, h, hxv, ey, Instr.indexAt, Instr.sureAddr, asIntOf, run_underlying hu, hlt', hsz, Addr.add_lit]
            split at he
            · rename_i b ver r off hp
              split at he
              · rename_i bx hgb
                split at he
                · rename_i hce
                  split at he
                  · rename_i row hrow
                    cases he
                    rw [hp] at rx
                    obtain ⟨inf, h1, h2, h3, h4, h5⟩ := ptr_inv rx
                    obtain ⟨hat, hver⟩ := blk_of hin hgb h2
                    have hvirt : inf.virt = false := by
                      rcases hat.mem with ⟨_, hr⟩ | ⟨hv, _⟩
                      · rw [hr] at hrow; simp at hrow
                      · exact hv
                    have hv := h5 hver hvirt
                    have hie : inf.e = ti.size := hat.e.trans hce.1
                    refine wp_of_run (run _ _ hv) (hn _ _ _ _ (PurOut.same hin.frz hin.own (.ptr h1 h2 h3 rfl (fun _ _ => ?_))))
                    rw [hie, hce.2, Nat.add_mul]
                    simp
                  · cases he
                · split at he
                  · rename_i row hrow
                    cases he
                    rw [hp] at rx
                    obtain ⟨inf, h1, h2, h3, h4, h5⟩ := ptr_read hin rx hgb hrow
                    exact wp_of_run (run _ _ h4) (hn _ _ _ _ (PurOut.same hin.frz hin.own (rep_ptr_off rx h1 h3 h2.e)))
                  · cases he
              · cases he
            · rename_i cells hp
              cases he
              rw [hp] at rx
              obtain ⟨b, off, h5, h6⟩ := cptr_inv rx
              exact wp_of_run (run _ _ h5) (hn _ _ _ _ (PurOut.same hin.frz hin.own (rep_cptr_off h6)))
            · cases he
          · cases he
        · cases he
      · cases he
    · cases hd
  · cases hd

end
end Go.Proofs.YtidkdiooempkpaaDoor
/- The operations that change no block: builtins and slices of slices. -/
namespace Go.Proofs.YtidkdiooempkpaaDoor
open Go Go.RowKit
set_option linter.unusedSectionVars false
variable [Bs]
set_option linter.unusedVariables false
set_option linter.unusedSimpArgs false

section
variable {P : Program} {call : Cl} {own : List Nat} {o : Oper}

theorem opds {m : Mem} {k : Nat} {sl : List PV} {a : Act} : ∀ (l : List Operand) (cs : List AO), (∀ t, Operand.tmp t ∈ l → Rep m k (sl.getD t .top) (a.tmps.getD t undef)) → digL l = some cs →
    cs.length = l.length ∧ ∀ (i : Nat) (p : PV), (cs.map (·.ev sl))[i]? = some p → Rep m k p ((l.map a.eval).getD i undef) := by
  intro l
  induction l with
  | nil => intro cs _ hc; simp [digL] at hc; subst hc; exact ⟨rfl, fun i p hp => by simp at hp⟩
  | cons x r ih =>
    intro cs hm hc
    simp only [digL] at hc
    split at hc
    · rename_i ax axs h1 h2
      cases hc
      obtain ⟨e1, e2⟩ := ih axs (fun t ht => hm t (by simp [ht])) h2
      refine ⟨by simp [e1], fun i p hp => ?_⟩
      cases i with
      | zero =>
        simp at hp
        subst hp
        simp
        exact opd h1 (fun t ht => hm t (by simp [ht]))
      | succ i => simpa using e2 i p (by simpa using hp)
    · cases hc

theorem call_ops {c : Call} {b : Builtin} (hcal : c.callee = .builtin b) (h : o.op = .call c) (t : Nat) (ht : Operand.tmp t ∈ c.args.toList) : Operand.tmp t ∈ o.op.operands := by
  rw [h]
  simp only [Op.operands, Call.operands, hcal]
  simpa using ht

theorem exec_builtin {c : Call} {b : Builtin} {a : Act} (hcal : c.callee = .builtin b) (h : o.op = .call c) :
    execOp a.eval o = builtin b c.argTypes o.type (c.args.map fun | .const _ => true | _ => false) (c.args.map a.eval) := by
  simp only [execOp, h, resolve, hcal]
  rfl

theorem minP_run {p q r : PV} {m : Mem} {k : Nat} {u v : Value} {w : World} (h : minP p q = some r) (hp : Rep m k p u) (hq : Rep m k q v) : ∃ z, (Builtin.min2 u v).run P w = .ok z w ∧ Rep m k r z := by
  unfold minP at h
  split at h
  · cases h
    obtain rfl := int_inv hp
    obtain rfl := int_inv hq
    exact ⟨_, rfl, .int⟩
  · cases h
theorem maxP_run {p q r : PV} {m : Mem} {k : Nat} {u v : Value} {w : World} (h : maxP p q = some r) (hp : Rep m k p u) (hq : Rep m k q v) : ∃ z, (Builtin.max2 u v).run P w = .ok z w ∧ Rep m k r z := by
  unfold maxP at h
  split at h
  · cases h
    obtain rfl := int_inv hp
    obtain rfl := int_inv hq
    exact ⟨_, by simp [Builtin.max2], .int⟩
  · cases h

theorem foldP_run {f : PV → PV → Option PV} {g : Value → Value → Sem Value} {m : Mem} {k : Nat} {w : World}
    (hf : ∀ p q r u v, f p q = some r → Rep m k p u → Rep m k q v → ∃ z, (g u v).run P w = .ok z w ∧ Rep m k r z) :
    ∀ (ps : List PV) (vs : List Value) (p r : PV) (u : Value), foldP f p ps = some r → Rep m k p u → ps.length = vs.length → (∀ (i : Nat) (q : PV), ps[i]? = some q → Rep m k q (vs.getD i undef)) →
      ∃ z, (vs.foldlM g u).run P w = .ok z w ∧ Rep m k r z := by
  intro ps
  induction ps with
  | nil =>
    intro vs p r u h hp hl _
    simp [foldP] at h
    subst h
    have : vs = [] := List.eq_nil_of_length_eq_zero (by simpa using hl.symm)
    subst this
    exact ⟨u, rfl, hp⟩
  | cons q ps ih =>
    intro vs p r u h hp hl hr
    cases vs with
    | nil => simp at hl
    | cons v vs =>
      simp only [foldP] at h
      split at h
      · rename_i s hs
        obtain ⟨z, h1, h2⟩ := hf _ _ _ _ _ hs hp (by simpa using hr 0 q rfl)
        obtain ⟨z2, h3, h4⟩ := ih vs s r z h h2 (by simpa using hl) (fun i q hq => by simpa using hr (i + 1) q (by simpa using hq))
        exact ⟨z2, by simp [List.foldlM_cons, h1, h3], h4⟩
      · cases h

theorem pur_len {c : Call} (h : o.op = .call c) (hcal : c.callee = .builtin .len) : PurSound P call own o := by
  intro ao B k m w sl bl BL a p ns next Q hd he hl hin hn
  simp only [digOp, h, hcal] at hd
  split at hd
  · rename_i args ha
    obtain ⟨h1, h2⟩ := opds (m := m) (k := k) (sl := sl) (a := a) c.args.toList args (fun t ht => hl t (call_ops hcal h t ht)) ha
    have hex := exec_builtin (a := a) hcal h
    generalize hcs : (c.args.map fun | .const _ => true | _ => false) = consts at hex
    simp only [digBuiltin] at hd
    split at hd
    · rename_i x t hb hty
      have hlen : c.args.toList.length = 1 := by simpa using h1.symm
      obtain ⟨ox, hox⟩ := List.length_eq_one_iff.1 hlen
      have hargs : c.args = #[ox] := by rw [← Array.toArray_toList (xs := c.args), hox]
      have htys : c.argTypes = #[t] := by rw [← Array.toArray_toList (xs := c.argTypes), hty]
      have rx : Rep m k (x.ev sl) (a.eval ox) := by have := h2 0 (x.ev sl) rfl; rw [hox] at this; simpa using this
      rw [hargs, htys] at hex
      have fin : ∀ n : Nat, (ao = .len x → True) → p = .int .i64 n → ns = [] → (Builtin.len_ #[t] o.type #[a.eval ox]).run P w = .ok (.int .i64 n) w → o.wp P a w next Q := by
        intro n _ hp hns hrun
        subst hp hns
        refine wp_of_run (v := .int .i64 n) ?_ (hn _ _ _ _ (PurOut.same hin.frz hin.own .int))
        rw [hex]
        simp [builtin, hrun]
      have slc : ∀ e, P.underlying t = some (.slice e) → ao = .len x → o.wp P a w next Q := by
        intro e hu hao
        subst hao
        simp only [evPur] at he
        split at he
        · rename_i ex e' rows hs
          rw [hs] at rx
          obtain ⟨base, cap, e1, _⟩ := sl_inv rx
          cases he
          exact fin rows.length (fun _ => trivial) rfl rfl (by rw [e1]; simp [Builtin.len_, run_underlying hu, goInt])
        · rename_i hs
          rw [hs] at rx
          obtain ⟨ad, e1⟩ := nilS_inv rx
          cases he
          exact fin 0 (fun _ => trivial) rfl rfl (by rw [e1]; simp [Builtin.len_, run_underlying hu, goInt])
        · rename_i b ver lo len hs
          split at he
          · rename_i bx hgb
            cases he
            rw [hs] at rx
            obtain ⟨inf, g1, g2, g3, g4, g5⟩ := own_inv rx
            obtain ⟨hat, hver⟩ := blk_of hin hgb g2
            rcases g5 hver with ⟨hz, hz2, ad, e1⟩ | ⟨hv, cap, e1, _⟩
            · exact fin len (fun _ => trivial) rfl rfl (by rw [e1, hz]; simp [Builtin.len_, run_underlying hu, goInt])
            · exact fin len (fun _ => trivial) rfl rfl (by rw [e1]; simp [Builtin.len_, run_underlying hu, goInt])
          · cases he
        · cases he
      split at hd
      · rename_i hu
        cases hd
        simp only [evPur] at he
        split at he
        · rename_i s hs
          rw [hs] at rx
          obtain ⟨s', e1, e2⟩ := str_inv rx
          cases he
          exact fin s.length (fun _ => trivial) rfl rfl (by rw [e1, ← e2]; simp [Builtin.len_, run_underlying hu, goInt])
        · cases he
      · rename_i K E hu
        cases hd
        simp only [evPur] at he
        split at he
        · rename_i rows hrows
          cases he
          unfold mapRows at hrows
          split at hrows
          · rename_i b ver hv
            split at hrows
            · rename_i bx hgm
              cases hrows
              rw [hv] at rx
              obtain ⟨inf, g2, g5⟩ : ∃ i, m.blk b = some i ∧ (i.ver = ver → a.eval ox = .map (some i.g)) := by
                generalize a.eval ox = u at rx
                generalize hp : PV.mp b ver = p0 at rx
                cases rx <;> cases hp
                exact ⟨_, by assumption, by assumption⟩
              obtain ⟨q1, q2, q3⟩ := getM_spec hgm
              have hat := (hin.own.at_ b bx inf (hin.old q1) g2).map q3
              obtain ⟨es, clock, e1, e2, _⟩ := hat.mem
              refine fin bx.rows.length (fun h => by cases h) rfl rfl ?_
              rw [g5 (hat.ver.trans q2)]
              simp [Builtin.len_, run_underlying hu, MapKept.run_getObj_map e1, goInt, e2.1]
            · cases hrows
          · rename_i hv
            cases hrows
            rw [hv] at rx
            have e1 : a.eval ox = .map none := by
              generalize a.eval ox = u at rx
              generalize hp : PV.v (.map none) = p0 at rx
              cases rx <;> cases hp
              rfl
            exact fin 0 (fun h => by cases h) rfl rfl (by rw [e1]; simp [Builtin.len_, run_underlying hu, goInt])
          · cases hrows
        · cases he
      · rename_i e hu
        cases hd
        exact slc e hu rfl
      · rename_i n e hu
        cases hd
        simp only [evPur] at he
        cases he
        exact fin n (fun h => by cases h) rfl rfl (by simp [Builtin.len_, run_underlying hu, goInt])
      · cases hd
    all_goals simp_all
  · cases hd

theorem pur_cap {c : Call} (h : o.op = .call c) (hcal : c.callee = .builtin .cap) : PurSound P call own o := by
  intro ao B k m w sl bl BL a p ns next Q hd he hl hin hn
  simp only [digOp, h, hcal] at hd
  split at hd
  · rename_i args ha
    obtain ⟨h1, h2⟩ := opds (m := m) (k := k) (sl := sl) (a := a) c.args.toList args (fun t ht => hl t (call_ops hcal h t ht)) ha
    have hex := exec_builtin (a := a) hcal h
    generalize hcs : (c.args.map fun | .const _ => true | _ => false) = consts at hex
    simp only [digBuiltin] at hd
    split at hd
    case h_2 =>
      rename_i x t hb hty
      have hlen : c.args.toList.length = 1 := by simpa using h1.symm
      obtain ⟨ox, hox⟩ := List.length_eq_one_iff.1 hlen
      have hargs : c.args = #[ox] := by rw [← Array.toArray_toList (xs := c.args), hox]
      have htys : c.argTypes = #[t] := by rw [← Array.toArray_toList (xs := c.argTypes), hty]
      have rx : Rep m k (x.ev sl) (a.eval ox) := by have := h2 0 (x.ev sl) rfl; rw [hox] at this; simpa using this
      rw [hargs, htys] at hex
      split at hd
      · rename_i e hu
        cases hd
        simp only [evPur] at he
        split at he
        · rename_i hs
          rw [hs] at rx
          obtain ⟨ad, e1⟩ := nilS_inv rx
          cases he
          refine wp_of_run (v := .int .i64 0) ?_ (hn _ _ _ _ (PurOut.same hin.frz hin.own .int))
          rw [hex]
          simp [builtin, e1, Builtin.cap_, run_underlying hu, goInt]
        · cases he
      · cases hd
    all_goals first | (cases hd; done) | simp_all
  · cases hd

theorem getD_toList (vs : Array Value) (i : Nat) : vs.getD i undef = vs.toList.getD i undef := by
  rw [Array.getD_eq_getD_getElem?, List.getD_eq_getElem?_getD]; simp

theorem pur_minmax {c : Call} {b : Builtin} (h : o.op = .call c) (hcal : c.callee = .builtin b) (hb : b = .min ∨ b = .max) : PurSound P call own o := by
  intro ao B k m w sl bl BL a p ns next Q hd he hl hin hn
  simp only [digOp, h, hcal] at hd
  split at hd
  · rename_i args ha
    obtain ⟨h1, h2⟩ := opds (m := m) (k := k) (sl := sl) (a := a) c.args.toList args (fun t ht => hl t (call_ops hcal h t ht)) ha
    have hex := exec_builtin (a := a) hcal h
    generalize hcs : (c.args.map fun | .const _ => true | _ => false) = consts at hex
    have hml : (c.args.map a.eval).toList = c.args.toList.map a.eval := by simp
    rcases hb with rfl | rfl
    · simp only [digBuiltin] at hd
      cases hd
      simp only [evPur] at he
      split at he
      · rename_i q qs hq
        split at he
        · rename_i r hr
          cases he
          have hl2 : (c.args.toList.map a.eval).length = (q :: qs).length := by rw [← hq]; simp [h1]
          cases hv : c.args.toList.map a.eval with
          | nil => rw [hv] at hl2; simp at hl2
          | cons u us =>
            rw [hv] at hl2
            have hr0 : ∀ (i : Nat) (p : PV), (q :: qs)[i]? = some p → Rep m k p ((u :: us).getD i undef) := fun i p hp => by rw [← hq] at hp; rw [← hv]; exact h2 i p hp
            obtain ⟨z, hz, hzr⟩ := foldP_run (m := m) (k := k) (w := w) (P := P) (f := minP) (g := Builtin.min2) (fun _ _ _ _ _ => minP_run) qs us q p u hr (by simpa using hr0 0 q rfl) (by simpa using hl2.symm)
              (fun i p hp => by simpa using hr0 (i + 1) p (by simpa using hp))
            refine wp_of_run (v := z) ?_ (hn _ _ _ _ (PurOut.same hin.frz hin.own hzr))
            rw [hex]
            simp [builtin, Builtin.min_, hv, hz]
        · cases he
      · cases he
    · simp only [digBuiltin] at hd
      cases hd
      simp only [evPur] at he
      split at he
      · rename_i q qs hq
        split at he
        · rename_i r hr
          cases he
          have hl2 : (c.args.toList.map a.eval).length = (q :: qs).length := by rw [← hq]; simp [h1]
          cases hv : c.args.toList.map a.eval with
          | nil => rw [hv] at hl2; simp at hl2
          | cons u us =>
            rw [hv] at hl2
            have hr0 : ∀ (i : Nat) (p : PV), (q :: qs)[i]? = some p → Rep m k p ((u :: us).getD i undef) := fun i p hp => by rw [← hq] at hp; rw [← hv]; exact h2 i p hp
            obtain ⟨z, hz, hzr⟩ := foldP_run (m := m) (k := k) (w := w) (P := P) (f := maxP) (g := Builtin.max2) (fun _ _ _ _ _ => maxP_run) qs us q p u hr (by simpa using hr0 0 q rfl) (by simpa using hl2.symm)
              (fun i p hp => by simpa using hr0 (i + 1) p (by simpa using hp))
            refine wp_of_run (v := z) ?_ (hn _ _ _ _ (PurOut.same hin.frz hin.own hzr))
            rw [hex]
            simp [builtin, Builtin.max_, hv, hz]
        · cases he
      · cases he
  · cases hd

/-- an optional bound: none (then d) or a number -/
def OptIs (v : Option Value) (d n : Int) : Prop := (v = none ∧ n = d) ∨ ∃ k, v = some (.int k n)

theorem optI_is {m : Mem} {k : Nat} {sl : List PV} {a : Act} {x : Option Operand} {ax : Option AO} {d : Nat} {n : Int} (hd : digM x = some ax) (hl : ∀ t, x = some (.tmp t) → Rep m k (sl.getD t .top) (a.tmps.getD t undef)) (h : optI sl d ax = some n) :
    OptIs (x.map a.eval) d n := by
  cases x with
  | none => simp [digM] at hd; subst hd; simp [optI] at h; subst h; exact .inl ⟨rfl, rfl⟩
  | some x =>
    simp only [digM] at hd
    split at hd
    · rename_i ax' hx
      cases hd
      simp only [optI] at h
      split at h
      · rename_i j n' hj
        cases h
        have := opd (a := a) (m := m) (k := k) (sl := sl) hx (fun t ht => hl t (by rw [ht]))
        rw [hj] at this
        exact .inr ⟨j, by rw [Option.map_some, int_inv this]⟩
      · cases h
    · cases hd

theorem run_bound {w : World} {j : IntKind} {n : Int} {y : Nat} {c : BoundsCode} (h0 : 0 ≤ n) (h1 : n ≤ y) : (Instr.sliceBound (.int j n) y c).run P w = .ok n.toNat w := by
  simp [Instr.sliceBound, asIntOf, h0, h1]

theorem run_bounds2 {w : World} {isS : Bool} {len cap : Nat} {lo hi : Option Value} {l h : Int} (hlo : OptIs lo 0 l) (hhi : OptIs hi len h) (h0 : 0 ≤ l) (h1 : l ≤ h) (h2 : h ≤ cap) :
    (Instr.sliceBounds isS len cap lo hi none).run P w = .ok (l.toNat, h.toNat, cap) w := by
  have b2 : ∀ j c, (Instr.sliceBound (.int j h) cap c).run P w = .ok h.toNat w := fun j c => run_bound (by omega) h2
  have b1 : ∀ j c, (Instr.sliceBound (.int j l) h.toNat c).run P w = .ok l.toNat w := fun j c => run_bound h0 (by omega)
  rcases hlo with ⟨rfl, rfl⟩ | ⟨j1, rfl⟩ <;> rcases hhi with ⟨rfl, rfl⟩ | ⟨j2, rfl⟩ <;> simp_all [Instr.sliceBounds]

theorem run_bounds3 {w : World} {isS : Bool} {len cap : Nat} {lo hi : Option Value} {l h mx : Int} {j3 : IntKind} (hlo : OptIs lo 0 l) (hhi : ∃ j, hi = some (.int j h)) (h0 : 0 ≤ l) (h1 : l ≤ h) (h2 : h ≤ mx) (h3 : mx ≤ cap) :
    (Instr.sliceBounds isS len cap lo hi (some (.int j3 mx))).run P w = .ok (l.toNat, h.toNat, mx.toNat) w := by
  have b3 : ∀ j c, (Instr.sliceBound (.int j mx) cap c).run P w = .ok mx.toNat w := fun j c => run_bound (by omega) h3
  have b2 : ∀ j c, (Instr.sliceBound (.int j h) mx.toNat c).run P w = .ok h.toNat w := fun j c => run_bound (by omega) (by omega)
  have b1 : ∀ j c, (Instr.sliceBound (.int j l) h.toNat c).run P w = .ok l.toNat w := fun j c => run_bound h0 (by omega)
  obtain ⟨j2, rfl⟩ := hhi
  rcases hlo with ⟨rfl, rfl⟩ | ⟨j1, rfl⟩ <;> simp_all [Instr.sliceBounds]

theorem rep_sub {m : Mem} {k : Nat} {ex' : Bool} {e : Nat} {rows : List (List PV)} {base : Option Addr} {cap l h c : Nat} (h1 : rows.length ≤ cap) (hcm : cap ≤ maxLen)
    (h5 : rows = [] ∨ ∃ b off, base = some ⟨b, off, none⟩ ∧ (∀ r ∈ rows, r.length = e) ∧ ∀ (i : Nat) (row : List PV) (j : Nat) (p : PV), rows[i]? = some row → row[j]? = some p → ∃ u, m.cell b (off + i * e + j) = some u ∧ Rep m 0 p u)
    (hl : l ≤ h) (hh : h ≤ rows.length) (hc : h - l ≤ c) (hc2 : c ≤ cap) (hex : ex' = true → c = h - l) :
    Rep m k (.sl ex' e ((rows.take h).drop l)) (.slice (if c = 0 then base else base.map fun a => a.add (l * e)) (h - l) c) := by
  have hlen : ((rows.take h).drop l).length = h - l := by simp; omega
  by_cases hz : h - l = 0
  · have : (rows.take h).drop l = [] := List.eq_nil_of_length_eq_zero (by omega)
    rw [this, hz]
    exact .slz (by omega) (fun he => by have := hex he; omega)
  · rw [if_neg (by omega)]
    rcases h5 with rfl | ⟨b, off, rfl, h6, h7⟩
    · simp at hh; omega
    · rw [Option.map_some, Addr.add_lit, ← hlen]
      have key : ∀ (i : Nat) (row : List PV) (j : Nat) (p : PV), ((rows.take h).drop l)[i]? = some row → row[j]? = some p → ∃ u, m.cell b (off + l * e + i * e + j) = some u ∧ Rep m 0 p u := by
        intro i row j p hr hp
        rw [List.getElem?_drop, List.getElem?_take] at hr
        split at hr
        · obtain ⟨u, hu, hrep⟩ := h7 _ row j p hr hp
          refine ⟨u, ?_, hrep⟩
          rw [Nat.add_mul] at hu
          rw [← hu]; congr 1; omega
        · cases hr
      refine .sl (vals := fun i j => (m.cell b (off + l * e + i * e + j)).getD undef) (by omega) (by omega) (fun he => by have := hex he; omega) (fun r hr => h6 r (List.mem_of_mem_take (List.mem_of_mem_drop hr))) (fun i j row p hr hp => ?_) (fun i j row p hr hp => ?_)
      · obtain ⟨u, hu, _⟩ := key i row j p hr hp; simp [hu]
      · obtain ⟨u, hu, hrep⟩ := key i row j p hr hp; simpa [hu] using hrep

theorem pur_slc {t : TypeId} {x : Operand} {lo hi mx : Option Operand} (h : o.op = .slice t x lo hi mx) : PurSound P call own o := by
  intro ao B k m w sl bl BL a p ns next Q hd he hl hin hn
  simp only [digOp, h] at hd
  have hop : ∀ y, (y = some x ∨ y = lo ∨ y = hi ∨ y = mx) → ∀ t, y = some (.tmp t) → Rep m k (sl.getD t .top) (a.tmps.getD t undef) := by
    intro y hy t ht
    refine hl t ?_
    rw [h]
    simp only [Op.operands]
    rcases hy with rfl | rfl | rfl | rfl <;> simp_all
  split at hd
  · rename_i ax alo ahi hu hx hlo hhi hmx
    cases hd
    have hmx0 : mx = none := by
      cases mx with
      | none => rfl
      | some y => simp only [digM] at hmx; split at hmx <;> cases hmx
    subst hmx0
    have rx := opd (a := a) (m := m) (k := k) (sl := sl) hx (fun t ht => hop (some x) (.inl rfl) t (by rw [ht]))
    simp only [evPur] at he
    split at he
    · rename_i s l hs hl0 hl1
      split at he
      · rename_i hh hhi0
        split at he
        · rename_i hc
          cases he
          rw [hs] at rx
          obtain ⟨s', e1, e2⟩ := str_inv rx
          have o1 := optI_is (a := a) (m := m) (k := k) hlo (hop lo (by simp)) hl0
          have o2 := optI_is (a := a) (m := m) (k := k) hhi (hop hi (by simp)) hhi0
          have hsz : s.length = s'.size := by rw [← e2]; rfl
          rw [hsz] at o2 hc
          have hrun := run_bounds2 (P := P) (w := w) (isS := false) (cap := s'.size) o1 o2 hc.1 hc.2.1 hc.2.2
          refine wp_of_run (v := .string (s'.extract l.toNat hh.toNat)) ?_ (hn _ _ _ _ (PurOut.same hin.frz hin.own ?_))
          · simp [execOp, h, e1, Instr.sliceAt, Instr.slice, run_underlying hu, hrun]
          · have e3 : (s.take hh.toNat).drop l.toNat = (s'.extract l.toNat hh.toNat).data.toList := by
              rw [← e2, ByteArray.data_extract]
              simp [List.extract_eq_drop_take']
            rw [e3]
            exact .str
        · cases he
      · cases he
    · cases he
  · rename_i e ax alo ahi amx hu hx hlo hhi hmx
    split at hd
    · rename_i ti hti
      split at hd
      · cases hd
      · rename_i hmh
        cases hd
        have rx := opd (a := a) (m := m) (k := k) (sl := sl) hx (fun t ht => hop (some x) (.inl rfl) t (by rw [ht]))
        have hsz : (sizeOf e).run P w = .ok ti.size w := by simp [sizeOf, typeInfo, hti]
        have run2 : ∀ (base : Option Addr) (len cap : Nat) (l h' : Int), mx = none → a.eval x = .slice base len cap → OptIs (lo.map a.eval) 0 l → OptIs (hi.map a.eval) len h' → 0 ≤ l → l ≤ h' → h' ≤ cap →
            (execOp a.eval o).run P w = .ok (.value (.slice (if cap = l.toNat then base else base.map fun ad => ad.add (l.toNat * ti.size)) (h'.toNat - l.toNat) (cap - l.toNat))) w := by
          intro base len cap l h' hm0 hxv o1 o2 c0 c1 c2
          subst hm0
          have hrun := run_bounds2 (P := P) (w := w) (isS := true) (cap := cap) o1 o2 c0 c1 c2
          simp [execOp, h, hxv, Instr.sliceAt, Instr.slice, run_underlying hu, hrun, hsz]
        have run3 : ∀ (base : Option Addr) (len cap : Nat) (l h' mv : Int) (j3 : IntKind), mx.map a.eval = some (.int j3 mv) → a.eval x = .slice base len cap → OptIs (lo.map a.eval) 0 l → (∃ j, hi.map a.eval = some (.int j h')) → 0 ≤ l → l ≤ h' → h' ≤ mv → mv ≤ cap →
            (execOp a.eval o).run P w = .ok (.value (.slice (if mv.toNat = l.toNat then base else base.map fun ad => ad.add (l.toNat * ti.size)) (h'.toNat - l.toNat) (mv.toNat - l.toNat))) w := by
          intro base len cap l h' mv j3 hm0 hxv o1 o2 c0 c1 c2 c3
          have hrun := run_bounds3 (P := P) (w := w) (isS := true) (cap := cap) (len := len) (j3 := j3) o1 o2 c0 c1 c2 c3
          simp [execOp, h, hxv, Instr.sliceAt, Instr.slice, run_underlying hu, hm0, hrun, hsz]
        have hmxo : ∀ (d : Nat) (n : Int), optI sl d amx = some n → OptIs (mx.map a.eval) d n := fun d n hh => optI_is (a := a) (m := m) (k := k) hmx (hop mx (by simp)) hh
        simp only [evPur] at he
        split at he
        · rename_i ex e' rows l hs hl0
          rw [hs] at rx
          obtain ⟨base, cap, e1, e2, e3, e4, e5⟩ := sl_inv rx
          have o1 := optI_is (a := a) (m := m) (k := k) hlo (hop lo (by simp)) hl0
          split at he
          · rename_i hee
            subst hee
            split at he
            · rename_i hh hhi0
              have o2 := optI_is (a := a) (m := m) (k := k) hhi (hop hi (by simp)) hhi0
              split at he
              · split at he
                · rename_i hc
                  cases he
                  have hm0 : mx = none := by
                    cases mx with
                    | none => rfl
                    | some y => simp only [digM] at hmx; split at hmx <;> cases hmx
                  refine wp_of_run (run2 _ _ _ _ _ hm0 e1 o1 o2 hc.1 hc.2.1 (by omega)) (hn _ _ _ _ (PurOut.same hin.frz hin.own ?_))
                  have hrs := rep_sub (m := m) (k := k) (ex' := ex && hh == (rows.length : Int)) (l := l.toNat) (h := hh.toNat) (c := cap - l.toNat) e2 e3 e5 (by omega) (by omega) (by omega) (by omega) (fun hx => by
                    simp only [Bool.and_eq_true, beq_iff_eq] at hx
                    have := e4 hx.1
                    omega)
                  have hiff : (cap = l.toNat) = (cap - l.toNat = 0) := by apply propext; omega
                  simp only [hiff]
                  exact hrs
                · cases he
              · rename_i amx' 
                split at he
                · rename_i j3 mv hmv
                  split at he
                  · rename_i hc
                    cases he
                    have o3 := hmxo 0 mv (by simp [optI, hmv])
                    have hmx1 : ∃ y, mx = some y := by
                      cases mx with
                      | none => simp [digM] at hmx
                      | some y => exact ⟨y, rfl⟩
                    obtain ⟨y, rfl⟩ := hmx1
                    rcases o3 with ⟨o3, _⟩ | ⟨j3', o3⟩
                    · simp at o3
                    · have o2' : ∃ j, hi.map a.eval = some (.int j hh) := by
                        rcases o2 with ⟨o2, _⟩ | o2
                        · exfalso
                          cases hi with
                          | none => simp [digM] at hhi; subst hhi; simp at hmh
                          | some _ => simp at o2
                        · exact o2
                      refine wp_of_run (run3 _ _ _ _ _ _ _ o3 e1 o1 o2' hc.1 hc.2.1 hc.2.2.1 (by omega)) (hn _ _ _ _ (PurOut.same hin.frz hin.own ?_))
                      have hrs := rep_sub (m := m) (k := k) (ex' := hh == mv) (l := l.toNat) (h := hh.toNat) (c := mv.toNat - l.toNat) e2 e3 e5 (by omega) (by omega) (by omega) (by omega) (fun hx => by
                        simp only [beq_iff_eq] at hx
                        omega)
                      have hiff : (mv.toNat = l.toNat) = (mv.toNat - l.toNat = 0) := by apply propext; omega
                      simp only [hiff]
                      exact hrs
                  · cases he
                · cases he
            · cases he
          · cases he
        · rename_i l hs hl0
          rw [hs] at rx
          obtain ⟨ad, e1⟩ := nilS_inv rx
          have o1 := optI_is (a := a) (m := m) (k := k) hlo (hop lo (by simp)) hl0
          split at he
          · rename_i hh mv hhi0 hmv
            split at he
            · rename_i hc
              cases he
              obtain ⟨rfl, rfl, rfl⟩ := hc
              have o2 := optI_is (a := a) (m := m) (k := k) hhi (hop hi (by simp)) hhi0
              have o3 := hmxo 0 0 hmv
              rcases o3 with ⟨o3, _⟩ | ⟨j3, o3⟩
              · have hm0 : mx = none := by simpa using o3
                exact wp_of_run (run2 _ _ _ _ _ hm0 e1 o1 o2 (Int.le_refl _) (Int.le_refl _) (by simp)) (hn _ _ _ _ (PurOut.same hin.frz hin.own .nilS))
              · have o2' : ∃ j, hi.map a.eval = some (.int j 0) := by
                  rcases o2 with ⟨o2, _⟩ | o2
                  · exfalso
                    cases hi with
                    | none =>
                      simp [digM] at hhi
                      subst hhi
                      cases mx with
                      | none => simp at o3
                      | some y =>
                        simp only [digM] at hmx
                        split at hmx
                        · cases hmx; simp at hmh
                        · cases hmx
                    | some _ => simp at o2
                  · exact o2
                exact wp_of_run (run3 _ _ _ _ _ _ _ o3 e1 o1 o2' (Int.le_refl _) (Int.le_refl _) (Int.le_refl _) (by simp)) (hn _ _ _ _ (PurOut.same hin.frz hin.own .nilS))
            · cases he
          · cases he
        · rename_i b ver lo0 len l hs hl0
          rw [hs] at rx
          have o1 := optI_is (a := a) (m := m) (k := k) hlo (hop lo (by simp)) hl0
          obtain ⟨inf, g1, g2, g3, g4, g5⟩ := own_inv rx
          split at he
          · rename_i bx hgb
            obtain ⟨hat, hver⟩ := blk_of hin hgb g2
            split at he
            · rename_i hee
              split at he
              · rename_i hh hhi0
                have o2 := optI_is (a := a) (m := m) (k := k) hhi (hop hi (by simp)) hhi0
                split at he
                · split at he
                  · rename_i hc
                    cases he
                    have hm0 : mx = none := by
                      cases mx with
                      | none => rfl
                      | some y => simp only [digM] at hmx; split at hmx <;> cases hmx
                    rcases g5 hver with ⟨hz, hz2, ad, e1⟩ | ⟨hv, cap, e1, f1, f2, f3⟩
                    · have hl' : l = 0 := by omega
                      have hh' : hh = 0 := by omega
                      subst hz hl' hh'
                      refine wp_of_run (run2 _ _ _ _ _ hm0 e1 o1 o2 (Int.le_refl _) (Int.le_refl _) (by simp)) (hn _ _ _ _ (PurOut.same hin.frz hin.own (.own g1 g2 g3 (by simp [Value.oneCell']) (fun _ => ?_))))
                      exact .inl ⟨by simp, by simpa using hz2, ad, by simp⟩
                    · refine wp_of_run (run2 _ _ _ _ _ hm0 e1 o1 o2 hc.1 hc.2.1 (by omega)) (hn _ _ _ _ (PurOut.same hin.frz hin.own (.own g1 g2 g3 (by simp [Value.oneCell']) (fun _ => ?_))))
                      by_cases hcl : cap = l.toNat
                      · left
                        refine ⟨by omega, by omega, some ⟨inf.g, lo0 * inf.e, none⟩, ?_⟩
                        rw [if_pos hcl, show hh.toNat - l.toNat = 0 by omega, show cap - l.toNat = 0 by omega]
                      · right
                        refine ⟨hv, cap - l.toNat, ?_, by omega, by omega, by omega⟩
                        rw [if_neg hcl, Option.map_some, Addr.add_lit, ← hee, ← hat.e, Nat.add_mul]
                  · cases he
                · split at he
                  · rename_i j3 mv hmv
                    split at he
                    · rename_i hc
                      cases he
                      obtain ⟨rfl, rfl, rfl⟩ := hc
                      have o3 := hmxo 0 0 (by simp [optI, hmv])
                      rcases o3 with ⟨o3, _⟩ | ⟨j3', o3⟩
                      · exfalso
                        cases mx with
                        | none => simp [digM] at hmx
                        | some y => simp at o3
                      · have o2' : ∃ j, hi.map a.eval = some (.int j 0) := by
                          rcases o2 with ⟨o2, _⟩ | o2
                          · exfalso
                            cases hi with
                            | none => simp [digM] at hhi; subst hhi; simp at hmh
                            | some _ => simp at o2
                          · exact o2
                        have fin : ∀ (base : Option Addr) (cap : Nat), a.eval x = .slice base len cap → o.wp P a w next Q := fun base cap e1 =>
                          wp_of_run (run3 base len cap 0 0 0 j3' o3 e1 o1 o2' (Int.le_refl _) (Int.le_refl _) (Int.le_refl _) (by simp)) (hn _ _ _ _ (PurOut.same hin.frz hin.own (by simpa using Rep.nilS)))
                        rcases g5 hver with ⟨hz, hz2, ad, e1⟩ | ⟨hv, cap, e1, f1, f2, f3⟩
                        · subst hz
                          exact fin _ _ e1
                        · exact fin _ _ e1
                    · cases he
                  · cases he
              · cases he
            · cases he
          · cases he
        · cases he
    · cases hd
  · rename_i n e ax ahi hu hx hlo hhi hmx
    split at hd
    · rename_i ti hti
      cases hd
      have hlo0 : lo = none := by
        cases lo with
        | none => rfl
        | some y => simp only [digM] at hlo; split at hlo <;> cases hlo
      have hmx0 : mx = none := by
        cases mx with
        | none => rfl
        | some y => simp only [digM] at hmx; split at hmx <;> cases hmx
      subst hlo0 hmx0
      have rx := opd (a := a) (m := m) (k := k) (sl := sl) hx (fun t ht => hop (some x) (.inl rfl) t (by rw [ht]))
      have hsz : (sizeOf e).run P w = .ok ti.size w := by simp [sizeOf, typeInfo, hti]
      simp only [evPur] at he
      split at he
      · rename_i b ver r off hp
        split at he
        · rename_i bx hgb
          split at he
          · rename_i hh hhi0
            split at he
            · rename_i hc
              obtain ⟨rfl, rfl, c1, c2, c3, c4, c5⟩ := hc
              cases he
              rw [hp] at rx
              obtain ⟨inf, g1, g2, g3, g4, g5⟩ := ptr_inv rx
              obtain ⟨hat, hver⟩ := blk_of hin hgb g2
              have hn1 := hat.n
              have hvirt : inf.virt = false ∧ inf.n ≤ inf.cap := by
                rcases hat.mem with ⟨_, hr⟩ | ⟨hv, _, _, _, _, q, _⟩
                · rw [hr] at c2; simp at c2; omega
                · exact ⟨hv, q⟩
              have hv := g5 hver hvirt.1
              simp only [Nat.zero_mul, Nat.zero_add] at hv
              have o2 := optI_is (a := a) (m := m) (k := k) hhi (hop hi (by simp)) hhi0
              have hrun := run_bounds2 (P := P) (w := w) (isS := false) (lo := none) (l := 0) (cap := n) (.inl ⟨rfl, rfl⟩) o2 (Int.le_refl _) c4 c5
              have hnz : ¬ n = 0 := by omega
              refine wp_of_run (v := .slice (some ⟨inf.g, 0, none⟩) hh.toNat n) ?_ (hn _ _ _ _ (PurOut.same hin.frz hin.own (.own g1 g2 g3 (by simp [Value.oneCell']) (fun _ => ?_))))
              · simp [execOp, h, hv, Instr.sliceAt, Instr.sureAddr, run_underlying hu, hrun, hsz, hnz, Addr.add_lit]
              · exact .inr ⟨hvirt.1, n, by simp, by omega, by omega, by have := hvirt.2; omega⟩
            · cases he
          · cases he
        · cases he
      · cases he
    · cases hd
  · cases hd

end
end Go.Proofs.YtidkdiooempkpaaDoor
/- The operations that change no block: those that make memory. -/
namespace Go.Proofs.YtidkdiooempkpaaDoor
open Go Go.RowKit
set_option linter.unusedSectionVars false
variable [Bs]
set_option linter.unusedVariables false
set_option linter.unusedSimpArgs false

section
variable {P : Program} {call : Cl} {own : List Nat} {o : Oper}

/-- the rows that a slice reads as -/
theorem rows_read {B k : Nat} {m : Mem} {w : World} {bl BL : Blks} {ns : List Blk} (hin : PurIn B k m w bl ns BL) {e : Nat} {p : PV} {rows : List (List PV)} {v : Value} (h : rowsOf e bl p = some rows) (hr : Rep m k p v) :
    ∃ base cap, v = .slice base rows.length cap ∧ (∀ r ∈ rows, r.length = e) ∧ (rows = [] ∨ ∃ b off, base = some ⟨b, off, none⟩ ∧
      ∀ (i : Nat) (row : List PV) (j : Nat) (q : PV), rows[i]? = some row → row[j]? = some q → ∃ u, w.cell? ⟨b, off + i * e + j, none⟩ = some u ∧ u.oneCell' = true ∧ Rep m k q u) := by
  unfold rowsOf at h
  split at h
  · split at h
    · rename_i hee
      cases h
      obtain ⟨base, cap, e1, _, _, _, e5⟩ := sl_inv hr
      subst hee
      rcases e5 with rfl | ⟨b, off, rfl, e6, e7⟩
      · exact ⟨_, _, e1, by simp, .inl rfl⟩
      · exact ⟨_, _, e1, e6, .inr ⟨b, off, rfl, fun i row j q hi hj => by
          obtain ⟨u, hu, hrep⟩ := e7 i row j q hi hj
          exact ⟨u, (hin.frz.1 _ _ _ hu).1, (hin.frz.1 _ _ _ hu).2, hrep.up (Nat.zero_le _)⟩⟩⟩
    · cases h
  · cases h
    obtain ⟨a, e1⟩ := nilS_inv hr
    exact ⟨_, _, e1, by simp, .inl rfl⟩
  · rename_i b ver lo len
    split at h
    · rename_i x hgb
      split at h
      · rename_i hc
        cases h
        obtain ⟨inf, g1, g2, g3, g4, g5⟩ := own_inv hr
        obtain ⟨hat, hver⟩ := blk_of hin hgb g2
        have hlen : ((x.rows.drop lo).take len).length = len := by simp; omega
        have hrl : ∀ r ∈ (x.rows.drop lo).take len, r.length = e := fun r hr => by rw [← hc.2]; exact hat.rowl r (List.mem_of_mem_drop (List.mem_of_mem_take hr))
        rcases g5 hver with ⟨hz, hz2, ad, e1⟩ | ⟨hv, cap, e1, f1, f2, f3⟩
        · refine ⟨ad, 0, by rw [hlen, e1, hz], hrl, .inl (List.eq_nil_of_length_eq_zero (by omega))⟩
        · rcases hat.mem with ⟨hv', _⟩ | ⟨_, cur, ty, m1, m2, m3, m4, m5⟩
          · rw [hv] at hv'; cases hv'
          · refine ⟨_, cap, by rw [hlen]; exact e1, hrl, .inr ⟨_, _, rfl, fun i row j q hi hj => ?_⟩⟩
            rw [List.getElem?_take] at hi
            split at hi
            · rw [List.getElem?_drop] at hi
              obtain ⟨u, hu, h1, hrep⟩ := m5 _ row j q hi hj
              refine ⟨u, ?_, h1, ?_⟩
              · have : lo * inf.e + i * e + j = (lo + i) * x.e + j := by rw [hat.e, hc.2, Nat.add_mul]
                rw [this]
                simpa [World.cell?, m1] using hu
              · split at hrep
                · exact hrep.up (Nat.zero_le _)
                · exact hrep
            · cases hi
      · cases h
    · cases h
  · cases h

theorem bytesOfRows_spec : ∀ {rows : List (List PV)} {bs : List UInt8}, bytesOfRows rows = some bs → ∃ ns : List Int, rows = ns.map (fun n => [PV.int .u8 n]) ∧ bs = ns.map fun n => UInt8.ofNat n.toNat
  | [], bs, h => by simp [bytesOfRows] at h; subst h; exact ⟨[], rfl, rfl⟩
  | row :: r, bs, h => by
    unfold bytesOfRows at h
    split at h
    · rename_i heq; simp at heq
    · rename_i n r' heq
      simp at heq
      obtain ⟨h1, h2⟩ := heq
      subst h1 h2
      split at h
      · rename_i bs' hb
        cases h
        obtain ⟨ns, e1, e2⟩ := bytesOfRows_spec hb
        exact ⟨n :: ns, by simp [e1], by simp [e2]⟩
      · cases h
    · cases h

theorem pur_conv {s d : TypeId} {x : Operand} (h : o.op = .convert s d x) : PurSound P call own o := by
  intro ao B k m w sl bl BL a p ns next Q hd he hl hin hn
  simp only [digOp, h] at hd
  split at hd
  · rename_i j1 j2 ax hs hdd hx
    cases hd
    have rx := opd (a := a) (m := m) (k := k) (sl := sl) hx (fun t ht => hl t (by simp [h, Op.operands, ht]))
    simp only [evPur] at he
    split at he
    · rename_i k2 j3 n hk hv
      cases hk
      cases he
      rw [hv] at rx
      have e1 := int_inv rx
      exact wp_of_run (v := .int j2 (j2.wrap n)) (by simp [execOp, h, e1, convert, run_underlying hs, run_underlying hdd, Conv.intToInt]) (hn _ _ _ _ (PurOut.same hin.frz hin.own .int))
    · rename_i hk _; cases hk
    · rename_i hk; cases hk
    · cases he
  · rename_i ax hs hdd hx
    cases hd
    have rx := opd (a := a) (m := m) (k := k) (sl := sl) hx (fun t ht => hl t (by simp [h, Op.operands, ht]))
    simp only [evPur] at he
    split at he
    · rename_i hk _; cases hk
    · rename_i bs hk hv
      cases he
      have rx' := rx
      rw [hv] at rx'
      obtain ⟨s', e1, e2⟩ := str_inv rx'
      exact wp_of_run (v := a.eval x) (by simp [execOp, h, e1, convert, run_underlying hs, run_underlying hdd]) (hn _ _ _ _ (PurOut.same hin.frz hin.own rx'))
    · rename_i hk; cases hk
    · cases he
  · rename_i e ax hs hdd hx
    split at hd
    · rename_i hu8
      cases hd
      have rx := opd (a := a) (m := m) (k := k) (sl := sl) hx (fun t ht => hl t (by simp [h, Op.operands, ht]))
      simp only [evPur] at he
      split at he
      · rename_i rows hrows
        split at he
        · rename_i bs hbs
          cases he
          obtain ⟨xs, e1, e2⟩ := bytesOfRows_spec hbs
          obtain ⟨base, cap, f1, f2, f3⟩ := rows_read hin hrows rx
          have hlen : rows.length = xs.length := by simp [e1]
          have hz : ∀ b off, base = some ⟨b, off, none⟩ → (∀ i, i < rows.length → w.cell? ⟨b, off + i, none⟩ = some (.int .u8 (xs.getD i 0))) → (convert s d (a.eval x)).run P w = .ok (.string (strOfNums xs)) w := by
            intro b off hb hc
            rw [f1, hb]
            exact run_convert_bytes_arg w s e hs hu8 b off rows.length cap xs hlen.symm hc d hdd
          have hrun : (convert s d (a.eval x)).run P w = .ok (.string (strOfNums xs)) w := by
            rcases f3 with f3 | ⟨b, off, rfl, f4⟩
            · have hx0 : xs = [] := List.eq_nil_of_length_eq_zero (by rw [← hlen, f3]; rfl)
              subst hx0
              rw [f1, run_convert_bytes_string w s d e _ _ _ hs hu8 hdd, hlen, List.length_nil]
              cases base with
              | none => simp [Conv.bytesToString, strOfNums]; rfl
              | some ad => rw [run_bytesToString w ad 0 cap [] (by simp [loadCells, loadCellsFrom])]; rfl
            · refine hz b off rfl (fun i hi => ?_)
              have hi' : i < xs.length := by omega
              have h1 : rows[i]? = some [PV.int .u8 xs[i]] := by rw [e1]; simp [List.getElem?_eq_getElem hi']
              obtain ⟨u, g1, g2, g3⟩ := f4 i _ 0 _ h1 rfl
              have := int_inv g3
              subst this
              rw [List.getD_eq_getElem?_getD, List.getElem?_eq_getElem hi']
              simpa using g1
          refine wp_of_run (v := .string (strOfNums xs)) (by simp [execOp, h, hrun]) (hn _ _ _ _ (PurOut.same hin.frz hin.own ?_))
          have e3 : bs = (strOfNums xs).data.toList := by rw [e2]; rfl
          rw [e3]
          exact .str
        · cases he
      · cases he
    · cases hd
  · cases hd

theorem zeroP_spec {t : TypeId} {z : List PV} (h : zeroP P t = some z) : ∃ i zv, P.info? t = some i ∧ i.zero = some zv ∧ z = zv.cells.toList.map ofVal ∧ zv.cells.size = i.size ∧ z.all PV.leaf = true ∧ PV.lt.ltL 0 z = true := by
  unfold zeroP at h
  split at h
  · rename_i i hi
    split at h
    · rename_i zv hz
      split at h
      · rename_i hc
        cases h
        exact ⟨i, zv, hi, hz, rfl, hc.1, hc.2.1, hc.2.2.1⟩
      · cases h
    · cases h
  · cases h

theorem zeroP_ne {t : TypeId} {z : List PV} (h : zeroP P t = some z) : z.length < mapE := by
  unfold zeroP at h
  split at h
  · split at h
    · split at h
      · rename_i hc; cases h; simp only [mapE, List.length_map, Array.length_toList]; omega
      · cases h
    · cases h
  · cases h

theorem all_get {α : Type} {f : α → Bool} {l : List α} (h : l.all f = true) {i : Nat} {x : α} (hi : l[i]? = some x) : f x = true := by
  rw [List.all_eq_true] at h
  exact h x (List.mem_of_getElem? hi)

/-- one row of cells in a new block -/
theorem rowsIn_one {m : Mem} {k : Nat} {cs : List PV} {cur : Array Value} (hr : ∀ (j : Nat) (p : PV), cs[j]? = some p → ∃ v, cur[j]? = some v ∧ v.oneCell' = true ∧ Rep m k p v) : RowsIn m k cs.length [cs] cur := by
  intro r row j p h1 h2
  cases r with
  | zero => simp at h1; subst h1; simpa using hr j p h2
  | succ r => simp at h1

theorem zero_cells {m : Mem} {zv : Value} {j : Nat} {p : PV} (hall : (zv.cells.toList.map ofVal).all PV.leaf = true) (hj : (zv.cells.toList.map ofVal)[j]? = some p) : ∃ v, zv.cells[j]? = some v ∧ v.oneCell' = true ∧ Rep m 0 p v := by
  have hl := all_get hall hj
  simp only [List.getElem?_map, Option.map_eq_some_iff] at hj
  obtain ⟨v, hv, rfl⟩ := hj
  exact ⟨v, by simpa using hv, leaf_one (rep_ofVal m v) hl, rep_ofVal m v⟩

/-- the cells of a value -/
theorem cells_rep {m : Mem} {k : Nat} {p : PV} {v : Value} (h : Rep m k p v) (hl : p.cells.all PV.leaf = true) : v.cells.size = p.cells.length ∧ ∀ (j : Nat) (q : PV), p.cells[j]? = some q → ∃ u, v.cells[j]? = some u ∧ u.oneCell' = true ∧ Rep m k q u := by
  have single : p.cells = [p] → v.cells.size = p.cells.length ∧ ∀ (j : Nat) (q : PV), p.cells[j]? = some q → ∃ u, v.cells[j]? = some u ∧ u.oneCell' = true ∧ Rep m k q u := by
    intro hp
    rw [hp] at hl
    simp at hl
    have h1 := leaf_one h hl
    have hc : v.cells = #[v] := by cases v <;> first | rfl | (simp [Value.oneCell'] at h1; done)
    rw [hp, hc]
    refine ⟨rfl, fun j q hj => ?_⟩
    cases j with
    | zero => simp at hj; subst hj; exact ⟨v, rfl, h1, h⟩
    | succ j => simp at hj
  cases p with
  | agg cs =>
    obtain ⟨vs, rfl, h2, h3⟩ := agg_inv h
    simp only [PV.cells] at hl ⊢
    refine ⟨h2.symm, fun j q hj => ?_⟩
    have hlt : j < vs.size := by rw [← h2]; exact (List.getElem?_eq_some_iff.1 hj).1
    have h4 := h3 j q hj
    rw [Array.getD_eq_getD_getElem?, Array.getElem?_eq_getElem hlt] at h4
    exact ⟨vs[j], by simp [Value.cells, hlt], leaf_one h4 (all_get hl hj), h4⟩
  | _ => exact single rfl

theorem pur_box {t : TypeId} {x : Operand} (h : o.op = .box t x) : PurSound P call own o := by
  intro ao B k m w sl bl BL a p ns next Q hd he hl hin hn
  simp only [digOp, h] at hd
  split at hd
  · rename_i ax hx
    cases hd
    have rx := opd (a := a) (m := m) (k := k) (sl := sl) hx (fun t ht => hl t (by simp [h, Op.operands, ht]))
    simp only [evPur] at he
    split at he
    · rename_i hleaf
      obtain ⟨hleaf, hne⟩ := hleaf
      cases he
      obtain ⟨h1, h3⟩ := hin.one
      obtain ⟨c1, c2⟩ := cells_rep rx hleaf
      have hrun : (execOp a.eval o).run P w = .ok (.value (.pointer (some ⟨w.heap.size, 0, none⟩))) (w.alloc (.cells (a.eval x).cells t)) := by
        simp [execOp, h, Instr.box, newVar, newRow]
      refine wp_of_run hrun (hn _ _ _ _ (PurOut.new ⟨w.heap.size, 1, (ax.ev sl).cells.length, 1, 1, false⟩ hin.frz hin.own hin.hB h1 h3 ((Below.refl _ _).alloc (Nat.le_refl _) _) ⟨rfl, rfl, rfl, by simp, .inr ⟨rfl, (a.eval x).cells, t, heap_alloc_new w _, by simp [c1], Nat.le_refl _, by simp [maxLen], ?_⟩, hne⟩ (fun _ => Nat.le_refl _) ?_))
      · refine rowsIn_one (fun j q hj => ?_)
        obtain ⟨u, hu, h1, hrep⟩ := c2 j q hj
        refine ⟨u, hu, h1, ?_⟩
        split
        · rename_i hlt; exact hrep.down (ltL_all hlt j q hj)
        · exact hrep
      · exact .ptr (by omega) (Mem.addBlk_same _ _ _) (Nat.le_refl _) rfl (fun _ _ => by simp)
    · cases he
  · cases hd

end
end Go.Proofs.YtidkdiooempkpaaDoor
/- The operations that change no block: values and slices built of parts. -/
namespace Go.Proofs.YtidkdiooempkpaaDoor
open Go Go.RowKit
set_option linter.unusedSectionVars false
variable [Bs]
set_option linter.unusedVariables false
set_option linter.unusedSimpArgs false

section
variable {P : Program} {call : Cl} {own : List Nat} {o : Oper}

/-- cells that read as the values cs -/
def RC (m : Mem) (k : Nat) (cs : List PV) (cells : Array Value) : Prop := cs.length = cells.size ∧ ∀ (j : Nat) (p : PV), cs[j]? = some p → ∃ v, cells[j]? = some v ∧ v.oneCell' = true ∧ Rep m k p v

theorem foldl_set (off : Nat) : ∀ (l : List Value) (s : Nat) (cells : Array Value),
    ((l.zipIdx s).foldl (fun cs x => cs.setIfInBounds (off + x.2) x.1) cells).size = cells.size ∧
    ∀ t : Nat, ((l.zipIdx s).foldl (fun cs x => cs.setIfInBounds (off + x.2) x.1) cells)[t]? = if off + s ≤ t ∧ t < off + s + l.length ∧ t < cells.size then l[t - (off + s)]? else cells[t]?
  | [], s, cells => ⟨rfl, fun t => by simp; omega⟩
  | v :: l, s, cells => by
    obtain ⟨h1, h2⟩ := foldl_set off l (s + 1) (cells.setIfInBounds (off + s) v)
    simp only [List.zipIdx_cons, List.foldl_cons]
    refine ⟨by rw [h1]; simp, fun t => ?_⟩
    rw [h2 t]
    simp only [Array.size_setIfInBounds, List.length_cons]
    by_cases ht : t = off + s
    · subst ht
      by_cases hlt : off + s < cells.size
      · rw [if_neg (by omega), if_pos (by omega)]
        simp [hlt]
      · rw [if_neg (by omega), if_neg (by omega)]
        simp [Array.getElem?_eq_none (Nat.le_of_not_lt hlt)]
        omega
    · have hne : off + s ≠ t := fun e => ht e.symm
      rw [Array.getElem?_setIfInBounds_ne hne]
      by_cases hc : off + (s + 1) ≤ t ∧ t < off + (s + 1) + l.length ∧ t < cells.size
      · rw [if_pos hc, if_pos (by omega)]
        rw [show t - (off + s) = t - (off + (s + 1)) + 1 by omega]
        simp
      · rw [if_neg hc, if_neg (by omega)]

theorem fill_step {m : Mem} {k : Nat} {cs q : List PV} {cells qs : Array Value} {off : Nat} (h : RC m k cs cells) (hq : RC m k q qs) (hle : off + q.length ≤ cs.length) :
    RC m k (cs.take off ++ q ++ cs.drop (off + q.length)) (qs.zipIdx.foldl (fun cs x => cs.setIfInBounds (off + x.2) x.1) cells) := by
  have hz : qs.zipIdx.foldl (fun cs x => cs.setIfInBounds (off + x.2) x.1) cells = (qs.toList.zipIdx 0).foldl (fun cs x => cs.setIfInBounds (off + x.2) x.1) cells := by
    rw [← Array.foldl_toList, Array.toList_zipIdx]
  rw [hz]
  obtain ⟨h1, h2⟩ := foldl_set off qs.toList 0 cells
  have hql : q.length = qs.toList.length := by simpa using hq.1
  refine ⟨by rw [h1]; simp; have := h.1; omega, fun j p hj => ?_⟩
  rw [h2 j]
  have hcs := h.1
  by_cases hj1 : j < off
  · rw [List.append_assoc, List.getElem?_append_left (by simp; omega), List.getElem?_take_of_lt hj1] at hj
    rw [if_neg (by omega)]
    exact h.2 j p hj
  · by_cases hj2 : j < off + q.length
    · rw [List.append_assoc, List.getElem?_append_right (by simp; omega), List.getElem?_append_left (by simp; omega)] at hj
      rw [if_pos (by omega)]
      have hmin : min off cs.length = off := by omega
      simp only [List.length_take, hmin] at hj
      obtain ⟨v, hv, hr⟩ := hq.2 _ p hj
      exact ⟨v, by simpa using hv, hr⟩
    · rw [List.getElem?_append_right (by simp; omega)] at hj
      rw [if_neg (by omega)]
      simp only [List.length_append, List.length_take, List.getElem?_drop] at hj
      rw [show off + q.length + (j - (min off cs.length + q.length)) = j by omega] at hj
      exact h.2 j p hj

theorem fill_rep {m : Mem} {k : Nat} {place : Nat → Option (Nat × Nat)} : ∀ (parts : List (Nat × Value)) (pp : List (Nat × Nat × PV)) (cells : Array Value) (cs cs' : List PV), parts.length = pp.length →
    (∀ (i : Nat) (x : Nat × Value) (y : Nat × Nat × PV), parts[i]? = some x → pp[i]? = some y → place x.1 = some (y.1, y.2.1) ∧ Rep m k y.2.2 x.2) → RC m k cs cells → fillP cs pp = some cs' →
      ∃ cells', Instr.fill place cells parts = some cells' ∧ RC m k cs' cells'
  | [], pp, cells, cs, cs', hl, _, h, hf => by
    have : pp = [] := List.eq_nil_of_length_eq_zero (by simpa using hl.symm)
    subst this
    simp [fillP] at hf
    subst hf
    exact ⟨cells, rfl, h⟩
  | (i, v) :: parts, pp, cells, cs, cs', hl, hp, h, hf => by
    cases pp with
    | nil => simp at hl
    | cons y pp =>
      obtain ⟨off, n, p⟩ := y
      obtain ⟨h1, h2⟩ := hp 0 (i, v) (off, n, p) rfl rfl
      simp only [fillP] at hf
      split at hf
      · rename_i hc
        obtain ⟨c1, c2⟩ := cells_rep h2 hc.2.2
        have hst := fill_step (off := off) h (⟨c1.symm, c2⟩ : RC m k p.cells v.cells) (by rw [hc.1]; exact hc.2.1)
        rw [hc.1] at hst
        obtain ⟨cells', e1, e2⟩ := fill_rep parts pp _ _ cs' (by simpa using hl) (fun i x y hx hy => hp (i + 1) x y (by simpa using hx) (by simpa using hy)) hst hf
        refine ⟨cells', ?_, e2⟩
        simp only at h1
        simp only [Instr.fill, h1]
        rw [if_neg (by
          have := h.1
          have c3 : v.cells.size = n := by rw [c1]; exact hc.1
          have c4 := hc.2.1
          simp only [Bool.or_eq_true, decide_eq_true_eq, not_or]
          exact ⟨by simp [c3], by omega⟩)]
        exact e1
      · cases hf

theorem run_mapM {α β : Type} {f : α → Sem β} {g : α → β} {w : World} : ∀ (l : List α), (∀ x ∈ l, (f x).run P w = .ok (g x) w) → (l.mapM f).run P w = .ok (l.map g) w
  | [], _ => by simp
  | x :: l, h => by
    have h1 := h x (by simp)
    have h2 := run_mapM l (fun y hy => h y (by simp [hy]))
    rw [List.mapM_cons]
    simp [h1, h2]

theorem digParts_spec {fs : Array Field} {m : Mem} {k : Nat} {sl : List PV} {a : Act} : ∀ (l : List (Nat × Operand)) (pp : List (Nat × Nat × AO)), digParts P fs l = some pp → (∀ t, Operand.tmp t ∈ l.map (·.2) → Rep m k (sl.getD t .top) (a.tmps.getD t undef)) →
    (l.map fun x => (x.1, a.eval x.2)).length = (pp.map fun q => (q.1, q.2.1, q.2.2.ev sl)).length ∧
    ∀ (i : Nat) (x : Nat × Value) (y : Nat × Nat × PV), (l.map fun x => (x.1, a.eval x.2))[i]? = some x → (pp.map fun q => (q.1, q.2.1, q.2.2.ev sl))[i]? = some y →
      (∃ f ti, fs[x.1]? = some f ∧ P.info? f.type = some ti ∧ y.1 = f.offset ∧ y.2.1 = ti.size) ∧ Rep m k y.2.2 x.2
  | [], pp, h, _ => by simp [digParts] at h; subst h; exact ⟨rfl, fun i x y hx => by simp at hx⟩
  | (j, x) :: l, pp, h, hl => by
    simp only [digParts] at h
    split at h
    · rename_i f hf
      split at h
      · rename_i ti ax axs h1 h2 h3
        cases h
        obtain ⟨e1, e2⟩ := digParts_spec l axs h3 (fun t ht => hl t (by simp at ht ⊢; exact .inr ht))
        refine ⟨by simpa using e1, fun i y z hy hz => ?_⟩
        cases i with
        | zero =>
          simp at hy hz
          subst hy hz
          exact ⟨⟨f, ti, hf, h1, rfl, rfl⟩, opd h2 (fun t ht => hl t (by simp [ht]))⟩
        | succ i => exact e2 i y z (by simpa using hy) (by simpa using hz)
      · cases h
    · cases h

theorem digEls_spec {m : Mem} {k : Nat} {sl : List PV} {a : Act} : ∀ (l : List (Nat × Operand)) (pp : List (Nat × AO)), digEls l = some pp → (∀ t, Operand.tmp t ∈ l.map (·.2) → Rep m k (sl.getD t .top) (a.tmps.getD t undef)) →
    l.length = pp.length ∧ ∀ (i : Nat) (x : Nat × Operand) (y : Nat × AO), l[i]? = some x → pp[i]? = some y → x.1 = y.1 ∧ Rep m k (y.2.ev sl) (a.eval x.2)
  | [], pp, h, _ => by simp [digEls] at h; subst h; exact ⟨rfl, fun i x y hx => by simp at hx⟩
  | (j, x) :: l, pp, h, hl => by
    simp only [digEls] at h
    split at h
    · rename_i ax axs h2 h3
      cases h
      obtain ⟨e1, e2⟩ := digEls_spec l axs h3 (fun t ht => hl t (by simp at ht ⊢; exact .inr ht))
      refine ⟨by simpa using e1, fun i y z hy hz => ?_⟩
      cases i with
      | zero =>
        simp at hy hz
        subst hy hz
        exact ⟨rfl, opd h2 (fun t ht => hl t (by simp at ht; subst ht; simp))⟩
      | succ i => exact e2 i y z (by simpa using hy) (by simpa using hz)
    · cases h

theorem RC.agg {m : Mem} {k : Nat} {cs : List PV} {cells : Array Value} (h : RC m k cs cells) : Rep m k (.agg cs) (.agg cells) :=
  .agg h.1 (fun j p hj => by
    obtain ⟨v, hv, _, hr⟩ := h.2 j p hj
    rw [Array.getD_eq_getD_getElem?, hv]
    exact hr)

theorem zero_rc {m : Mem} {k : Nat} {zv : Value} (hleaf : (zv.cells.toList.map ofVal).all PV.leaf = true) : RC m k (zv.cells.toList.map ofVal) zv.cells :=
  ⟨by simp, fun j p hj => by obtain ⟨v, h1, h2, h3⟩ := zero_cells (m := m) hleaf hj; exact ⟨v, h1, h2, h3.up (Nat.zero_le _)⟩⟩

theorem pur_build {t : TypeId} {ps : Array (Nat × Operand)} (h : o.op = .build t ps) : PurSound P call own o := by
  intro ao B k m w sl bl BL a p ns next Q hd he hl hin hn
  simp only [digOp, h] at hd
  have hop : ∀ t, Operand.tmp t ∈ ps.toList.map (·.2) → Rep m k (sl.getD t .top) (a.tmps.getD t undef) := fun t ht => hl t (by rw [h]; simp only [Op.operands]; simpa using ht)
  have hpl : (ps.map fun (i, x) => (i, a.eval x)).toList = ps.toList.map fun x => (x.1, a.eval x.2) := by simp
  split at hd
  · rename_i fs hu
    split at hd
    · rename_i z aa hz hp
      split at hd
      · rename_i hall
        cases hd
        simp only [evPur] at he
        split at he
        · rename_i cs hf
          cases he
          obtain ⟨i, zv, hi, hzv, rfl, hsz, hleaf, hlt⟩ := zeroP_spec hz
          obtain ⟨e1, e2⟩ := digParts_spec (m := m) (k := k) (sl := sl) (a := a) ps.toList aa hp hop
          have hmap : (fs.mapM fun f => (do pure (f.offset, ← sizeOf f.type) : Sem (Nat × Nat))).run P w = .ok (fs.map fun f => (f.offset, P.cellsOf f.type)) w := by
            rw [Array.mapM_eq_mapM_toList]
            have := run_mapM (P := P) (w := w) (f := fun f : Field => (do pure (f.offset, ← sizeOf f.type) : Sem (Nat × Nat))) (g := fun f => (f.offset, P.cellsOf f.type)) fs.toList (fun f hf => by
              rw [Array.all_eq_true_iff_forall_mem] at hall
              have := hall f (by simpa using hf)
              obtain ⟨j, hj⟩ := Option.isSome_iff_exists.1 this
              simp [sizeOf, typeInfo, hj, Program.cellsOf])
            simp only [Sem.run_map, this, Result.andThen_ok]
            congr 1
            apply Array.ext'
            simp
          obtain ⟨cells', f1, f2⟩ := fill_rep (m := m) (k := k) (place := fun i => (fs.map fun f => (f.offset, P.cellsOf f.type))[i]?) (ps.toList.map fun x => (x.1, a.eval x.2)) (aa.map fun q => (q.1, q.2.1, q.2.2.ev sl)) zv.cells _ cs e1 (fun i x y hx hy => by
            obtain ⟨⟨f, ti, g1, g2, g3, g4⟩, g5⟩ := e2 i x y hx hy
            refine ⟨?_, g5⟩
            simp [g1, g3, g4, Program.cellsOf, g2]) (zero_rc hleaf) hf
          refine wp_of_run (v := .agg cells') ?_ (hn _ _ _ _ (PurOut.same hin.frz hin.own f2.agg))
          simp only [execOp, h]
          refine run_value ?_
          simp only [Instr.build, Sem.run_bind, zeroValue, typeInfo, run_program, Result.andThen_ok, hi, Sem.run_pure, hzv, run_underlying hu, hmap, hpl, f1]
        · cases he
      · cases hd
    · cases hd
  · rename_i n e hu
    split at hd
    · rename_i z i2 aa hz hi2 hp
      cases hd
      simp only [evPur] at he
      split at he
      · rename_i cs hf
        cases he
        obtain ⟨i, zv, hi, hzv, rfl, hsz, hleaf, hlt⟩ := zeroP_spec hz
        obtain ⟨e1, e2⟩ := digEls_spec (m := m) (k := k) (sl := sl) (a := a) ps.toList aa hp hop
        have hsz : (sizeOf e).run P w = .ok i2.size w := by simp [sizeOf, typeInfo, hi2]
        obtain ⟨cells', f1, f2⟩ := fill_rep (m := m) (k := k) (place := fun i => some (i * i2.size, i2.size)) (ps.toList.map fun x => (x.1, a.eval x.2)) _ zv.cells _ cs (by simp [e1]) (fun i x y hx hy => by
          simp only [List.getElem?_map, Option.map_eq_some_iff] at hx hy
          obtain ⟨x0, hx0, rfl⟩ := hx
          obtain ⟨y1, ⟨y0, hy0, rfl⟩, rfl⟩ := hy
          obtain ⟨g1, g2⟩ := e2 i x0 y0 hx0 hy0
          exact ⟨by simp [g1], g2⟩) (zero_rc hleaf) hf
        refine wp_of_run (v := .agg cells') ?_ (hn _ _ _ _ (PurOut.same hin.frz hin.own f2.agg))
        simp only [execOp, h]
        refine run_value ?_
        simp only [Instr.build, Sem.run_bind, zeroValue, typeInfo, run_program, Result.andThen_ok, hi, Sem.run_pure, hzv, run_underlying hu, hsz, hpl, f1]
      · cases he
    · cases hd
  · cases hd

end
end Go.Proofs.YtidkdiooempkpaaDoor
/- The operations that change no block: slices made. -/
namespace Go.Proofs.YtidkdiooempkpaaDoor
open Go Go.RowKit
set_option linter.unusedSectionVars false
variable [Bs]
set_option linter.unusedVariables false
set_option linter.unusedSimpArgs false

section
variable {P : Program} {call : Cl} {own : List Nat} {o : Oper}

theorem flat_rep {α : Type} (z : List α) : ∀ (n t : Nat), t < n * z.length → (List.replicate n z).flatten[t]? = z[t % z.length]?
  | 0, t, h => by simp at h
  | n + 1, t, h => by
    rw [List.replicate_succ, List.flatten_cons]
    by_cases ht : t < z.length
    · rw [List.getElem?_append_left ht, Nat.mod_eq_of_lt ht]
    · rw [List.getElem?_append_right (by omega), flat_rep z n _ (by rw [Nat.add_mul] at h; omega)]
      congr 1
      exact (Nat.mod_eq_sub_mod (by omega)).symm

theorem flat_len {α : Type} (z : List α) (n : Nat) : (List.replicate n z).flatten.length = n * z.length := by
  induction n with
  | zero => simp
  | succ n ih => rw [List.replicate_succ, List.flatten_cons, List.length_append, ih, Nat.add_mul]; omega

/-- cells that repeat a zero value -/
def repCells (zv : Value) (n : Nat) : Array Value := (Array.range n).map fun i => zv.cells[i % zv.cells.size]!

theorem map0 (f : Nat → Value) : (Array.range 0).map f = #[] := by simp

theorem repCells_get {zv : Value} {n t : Nat} (h : t < n) (hz : 0 < zv.cells.size) : (repCells zv n)[t]? = zv.cells[t % zv.cells.size]? := by
  have hlt : t % zv.cells.size < zv.cells.size := Nat.mod_lt _ hz
  simp [repCells, h, hlt]

theorem rep_rc {m : Mem} {k : Nat} {zv : Value} {n : Nat} (hz : 0 < zv.cells.size) (hleaf : (zv.cells.toList.map ofVal).all PV.leaf = true) :
    RC m k ((List.replicate n (zv.cells.toList.map ofVal)).flatten) (repCells zv (n * zv.cells.size)) := by
  refine ⟨by rw [flat_len]; simp [repCells], fun j p hj => ?_⟩
  have hlt : j < n * zv.cells.size := by
    have := (List.getElem?_eq_some_iff.1 hj).1
    rw [flat_len] at this
    simpa using this
  rw [flat_rep _ _ _ (by simpa using hlt)] at hj
  rw [repCells_get hlt hz]
  obtain ⟨v, h1, h2, h3⟩ := zero_cells (m := m) hleaf hj
  exact ⟨v, by simpa using h1, h2, h3.up (Nat.zero_le _)⟩

theorem chunks_get (e : Nat) : ∀ (n r : Nat) (cs : List PV), r < n → (evPur.chunks e n cs)[r]? = some ((cs.drop (r * e)).take e)
  | 0, r, cs, h => by omega
  | n + 1, 0, cs, h => by simp [evPur.chunks]
  | n + 1, r + 1, cs, h => by
    simp only [evPur.chunks, List.getElem?_cons_succ]
    rw [chunks_get e n r _ (by omega), List.drop_drop]
    congr 3
    rw [Nat.add_mul]; omega
theorem chunks_len (e : Nat) : ∀ (n : Nat) (cs : List PV), (evPur.chunks e n cs).length = n
  | 0, _ => rfl
  | n + 1, cs => by simp [evPur.chunks, chunks_len e n]
theorem chunks_row {e n : Nat} {cs : List PV} (h : cs.length = n * e) : ∀ r ∈ evPur.chunks e n cs, r.length = e := by
  intro r hr
  obtain ⟨i, hi⟩ := List.getElem?_of_mem hr
  have hlt : i < n := by have := (List.getElem?_eq_some_iff.1 hi).1; rwa [chunks_len] at this
  rw [chunks_get e n i cs hlt] at hi
  cases hi
  simp only [List.length_take, List.length_drop]
  have : (i + 1) * e ≤ n * e := Nat.mul_le_mul_right e (by omega)
  rw [Nat.add_mul] at this
  omega
theorem chunks_cell {e n : Nat} {cs : List PV} {r j : Nat} {row : List PV} {p : PV} (h1 : (evPur.chunks e n cs)[r]? = some row) (h2 : row[j]? = some p) : cs[r * e + j]? = some p := by
  have hlt : r < n := by have := (List.getElem?_eq_some_iff.1 h1).1; rwa [chunks_len] at this
  rw [chunks_get e n r cs hlt] at h1
  cases h1
  rw [List.getElem?_take] at h2
  split at h2
  · rwa [List.getElem?_drop] at h2
  · cases h2

theorem fillP_len : ∀ (pp : List (Nat × Nat × PV)) (cs cs' : List PV), fillP cs pp = some cs' → cs'.length = cs.length
  | [], cs, cs', h => by simp [fillP] at h; rw [h]
  | (off, n, p) :: r, cs, cs', h => by
    simp only [fillP] at h
    split at h
    · rename_i hc
      rw [fillP_len r _ _ h]
      simp
      omega
    · cases h

theorem elemP_spec {t : TypeId} {x : TypeId × TypeInfo} (h : elemP P t = some x) : P.underlying t = some (.slice x.1) ∧ P.info? x.1 = some x.2 := by
  unfold elemP at h
  split at h
  · split at h
    · split at h
      · cases h; exact ⟨by assumption, by assumption⟩
      · cases h
    · cases h
  · cases h

theorem rc_oneCell {m : Mem} {k : Nat} {cs : List PV} {cells : Array Value} (h : RC m k cs cells) (j : Nat) (v : Value) (hv : cells[j]? = some v) : v.oneCell' = true := by
  have hlt : j < cs.length := by rw [h.1]; exact (Array.getElem?_eq_some_iff.1 hv).1
  obtain ⟨u, h1, h2, _⟩ := h.2 j _ (List.getElem?_eq_getElem hlt)
  rw [hv] at h1
  cases h1
  exact h2

theorem pur_bslice {t : TypeId} {n : Nat} {ps : Array (Nat × Operand)} (h : o.op = .buildSlice t n ps) : PurSound P call own o := by
  intro ao B k m w sl bl BL a p ns next Q hd he hl hin hn
  simp only [digOp, h] at hd
  have hop : ∀ t, Operand.tmp t ∈ ps.toList.map (·.2) → Rep m k (sl.getD t .top) (a.tmps.getD t undef) := fun t ht => hl t (by rw [h]; simp only [Op.operands]; simpa using ht)
  have hpl : (ps.map fun (i, x) => (i, a.eval x)).toList = ps.toList.map fun x => (x.1, a.eval x.2) := by simp
  split at hd
  · rename_i e i hel
    have hne := elemP_ne hel
    obtain ⟨hu, hi⟩ := elemP_spec hel
    simp only at hu hi
    split at hd
    · rename_i z aa hz hp
      split at hd
      · rename_i hc
        cases hd
        simp only [evPur] at he
        split at he
        · rename_i cs hf
          split at he
          · rename_i hleafc
            obtain ⟨i', zv, hi', hzv, rfl, hsz, hleaf, hlt⟩ := zeroP_spec hz
            rw [hi] at hi'
            cases hi'
            have hzp : 0 < zv.cells.size := by omega
            obtain ⟨e1, e2⟩ := digEls_spec (m := m) (k := k) (sl := sl) (a := a) ps.toList aa hp hop
            have hszr : ∀ w : World, (sizeOf e).run P w = .ok i.size w := fun w => by simp [sizeOf, typeInfo, hi]
            have hcl : cs.length = n * i.size := by rw [fillP_len _ _ _ hf, flat_len]; simp [hsz]
            obtain ⟨cells', f1, f2⟩ := fill_rep (m := m) (k := k) (place := fun j => some (j * i.size, i.size)) (ps.toList.map fun x => (x.1, a.eval x.2)) _ (repCells zv (n * i.size)) _ cs (by simp [e1]) (fun j x y hx hy => by
              simp only [List.getElem?_map, Option.map_eq_some_iff] at hx hy
              obtain ⟨x0, hx0, rfl⟩ := hx
              obtain ⟨y0, hy0, rfl⟩ := hy
              obtain ⟨g1, g2⟩ := e2 j x0 y0 hx0 hy0
              exact ⟨by simp [g1], g2⟩) (by rw [← hsz]; exact rep_rc hzp hleaf) hf
            have hrun : (execOp a.eval o).run P w = .ok (.value (.slice (some ⟨w.heap.size, 0, none⟩) n n)) (w.alloc (.cells cells' e)) := by
              simp only [execOp, h]
              refine run_value ?_
              simp only [Instr.buildSlice, Sem.run_bind, run_underlying hu, Result.andThen_ok, hszr, hpl]
              rw [if_neg (by omega)]
              by_cases hz0 : n * i.size = 0
              · have hfill := f1
                rw [hz0, show repCells zv 0 = #[] from map0 _] at hfill
                simp only [hz0, if_true, Sem.run_bind, Sem.run_pure, Result.andThen_ok, map0, hfill]
                simp [newRow]
              · simp only [hz0, if_false, Sem.run_bind, zeroValue, typeInfo, run_program, Result.andThen_ok, hi, Sem.run_pure, hzv]
                have : ((Array.range (n * i.size)).map fun (j : Nat) => zv.cells[j % zv.cells.size]!) = repCells zv (n * i.size) := rfl
                rw [this, f1]
                simp [newRow]
            have hcsz : cells'.size = n * i.size := by rw [← f2.1, hcl]
            have hnm : n ≤ 16777216 := Nat.le_trans (Nat.le_mul_of_pos_right n hc.2) hc.1
            split at he
            · cases he
              obtain ⟨h1, h3⟩ := hin.one
              refine wp_of_run hrun (hn _ _ _ _ (PurOut.new ⟨w.heap.size, n, i.size, n, n, false⟩ hin.frz hin.own hin.hB h1 h3 ((Below.refl _ _).alloc (Nat.le_refl _) _) ⟨rfl, rfl, by simp [chunks_len], chunks_row hcl, .inr ⟨rfl, cells', e, heap_alloc_new w _, hcsz, Nat.le_refl _, by simp [maxLen]; omega, ?_⟩, hne⟩ (fun _ => Nat.le_refl _) ?_))
              · intro r row j q hr hj
                have hcell := chunks_cell hr hj
                obtain ⟨v, g1, g2, g3⟩ := f2.2 _ q hcell
                refine ⟨v, g1, g2, ?_⟩
                cases hlc : PV.lt.ltL 0 cs
                · simpa [hlc] using g3
                · simpa [hlc] using g3.down (ltL_all hlc _ q hcell)
              · exact .own (by omega) (Mem.addBlk_same _ _ _) (Nat.le_refl _) rfl (fun _ => .inr ⟨rfl, n, by simp, Nat.le_refl _, by simp, by simp⟩)
            · rename_i hlent
              cases he
              have hlc : PV.lt.ltL 0 cs = true := by
                cases hh : PV.lt.ltL 0 cs
                · exact absurd (by simp [hh]) hlent
                · rfl
              refine wp_of_run hrun (hn _ _ _ _ (PurOut.frozen (fun j => cells'[j]?) hin.frz hin.own hin.hB ((Below.refl _ _).alloc (Nat.le_refl _) _) (fun j v hv => ⟨by rw [World.cell?_alloc_new]; exact hv, rc_oneCell f2 j v hv⟩) ?_))
              have key : ∀ (r : Nat) (row : List PV) (j : Nat) (q : PV), (evPur.chunks i.size n cs)[r]? = some row → row[j]? = some q → ∃ v, cells'[r * i.size + j]? = some v ∧ Rep m 0 q v := fun r row j q hr hj => by
                have hcell := chunks_cell hr hj
                obtain ⟨v, g1, _, g3⟩ := f2.2 _ q hcell
                exact ⟨v, g1, g3.down (ltL_all hlc _ q hcell)⟩
              have hln : (evPur.chunks i.size n cs).length = n := chunks_len _ _ _
              have := Rep.sl (m := m.addFrz w.heap.size (fun j => cells'[j]?)) (k := k) (ex := true) (e := i.size) (rows := evPur.chunks i.size n cs) (b := w.heap.size) (off := 0) (cap := n)
                (vals := fun r j => (cells'[r * i.size + j]?).getD undef) (by rw [hln]; exact Nat.le_refl _) (by simp [maxLen]; omega) (fun _ => hln.symm) (chunks_row hcl)
                (fun r j row q hr hj => by
                  obtain ⟨v, g1, g2⟩ := key r row j q hr hj
                  simp [Mem.addFrz, g1])
                (fun r j row q hr hj => by
                  obtain ⟨v, g1, g2⟩ := key r row j q hr hj
                  simp only [g1, Option.getD_some]
                  exact g2.re (fun b o u hu => by
                    have : b ≠ w.heap.size := fun e => by subst e; rw [frz_none hin.frz o (Nat.le_refl _)] at hu; cases hu
                    simp [Mem.addFrz, this, hu]))
              rw [hln] at this
              exact this
          · cases he
        · cases he
      · cases hd
    · cases hd
  · cases hd

theorem pur_make {t : TypeId} {l c : Operand} (h : o.op = .makeSlice t l c) : PurSound P call own o := by
  intro ao B k m w sl bl BL a p ns next Q hd he hl hin hn
  simp only [digOp, h] at hd
  split at hd
  · rename_i e i al ac hel hl1 hc1
    have hne := elemP_ne hel
    obtain ⟨hu, hi⟩ := elemP_spec hel
    simp only at hu hi
    split at hd
    · rename_i z hz
      split at hd
      · rename_i hpos
        split at hd
        · cases hd
          have rl := opd (a := a) (m := m) (k := k) (sl := sl) hl1 (fun t ht => hl t (by simp [h, Op.operands, ht]))
          have rc := opd (a := a) (m := m) (k := k) (sl := sl) hc1 (fun t ht => hl t (by simp [h, Op.operands, ht]))
          simp only [evPur] at he
          split at he
          · rename_i j1 l' j2 c' hl2 hc2
            split at he
            · rename_i hc
              cases he
              rw [hl2] at rl
              rw [hc2] at rc
              have el := int_inv rl
              have ec := int_inv rc
              obtain ⟨i', zv, hi', hzv, rfl, hsz, hleaf, hlt⟩ := zeroP_spec hz
              rw [hi] at hi'
              cases hi'
              have hzp : 0 < zv.cells.size := by omega
              obtain ⟨c0, c1, c2, c3⟩ := hc
              have wl : IntKind.i64.wrap l' = l' := by unfold IntKind.wrap; simp only [IntKind.bits, IntKind.signed]; simp; omega
              have wc : IntKind.i64.wrap c' = c' := by unfold IntKind.wrap; simp only [IntKind.bits, IntKind.signed]; simp; omega
              have hby : (i.bytes : Int) * c' ≤ 140737488355328 := by rw [Int.mul_comm]; exact c3
              have hszr : ∀ w : World, (sizeOf e).run P w = .ok i.size w := fun w => by simp [sizeOf, typeInfo, hi]
              have hrun : (execOp a.eval o).run P w = .ok (.value (.slice (some ⟨w.heap.size, 0, none⟩) l'.toNat c'.toNat)) (w.alloc (.cells (repCells zv (c'.toNat * i.size)) e)) := by
                simp only [execOp, h, el, ec]
                refine run_value ?_
                have hb1 : (decide (c' < 0) || decide ((i.bytes : Int) * c' > 281474976710656)) = false := by simp; omega
                simp only [Instr.makeSlice, Sem.run_bind, run_underlying hu, Result.andThen_ok, asInt, asIntOf, typeInfo, run_program, hi, Sem.run_pure, wl, wc]
                have hb2 : (decide (c' < 0) || decide ((i.bytes : Int) * c' > 2 ^ 48)) = false := by simp; omega
                have hb3 : (decide (l' < 0) || decide (l' > c')) = false := by simp; omega
                rw [if_neg (by rw [hb2]; simp; omega)]
                simp only [Sem.run_bind, run_askRoom, Result.andThen_ok, hszr]
                by_cases hz0 : c'.toNat * i.size = 0
                · simp only [hz0, if_true, Sem.run_bind, Sem.run_pure, Result.andThen_ok, map0, show repCells zv 0 = #[] from map0 _]
                  simp [newRow]
                · simp only [hz0, if_false, Sem.run_bind, zeroValue, typeInfo, run_program, Result.andThen_ok, hi, Sem.run_pure, hzv]
                  have : ((Array.range (c'.toNat * i.size)).map fun (j : Nat) => zv.cells[j % zv.cells.size]!) = repCells zv (c'.toNat * i.size) := rfl
                  rw [this]
                  simp [newRow]
              obtain ⟨h1, h3⟩ := hin.one
              have hzl : (zv.cells.toList.map ofVal).length = zv.cells.size := by simp
              refine wp_of_run hrun (hn _ _ _ _ (PurOut.new ⟨w.heap.size, l'.toNat, i.size, l'.toNat, c'.toNat, false⟩ hin.frz hin.own hin.hB h1 h3 ((Below.refl _ _).alloc (Nat.le_refl _) _) ⟨rfl, rfl, by simp, fun r hr => by rw [List.eq_of_mem_replicate hr, hzl, hsz], .inr ⟨rfl, _, e, heap_alloc_new w _, by simp [repCells], by simp; omega, by simp [maxLen]; omega, ?_⟩, hne⟩ (fun _ => Nat.le_refl _) ?_))
              · rw [hlt]
                intro r row j q hr hj
                have hr' := (List.getElem?_eq_some_iff.1 hr).1
                simp at hr'
                have hrow : row = zv.cells.toList.map ofVal := List.eq_of_mem_replicate (List.mem_of_getElem? hr)
                subst hrow
                have hj' := (List.getElem?_eq_some_iff.1 hj).1
                rw [hzl] at hj'
                have hin2 : r * i.size + j < c'.toNat * i.size := by
                  have : (r + 1) * i.size ≤ c'.toNat * i.size := Nat.mul_le_mul_right _ (by omega)
                  rw [Nat.add_mul] at this
                  omega
                rw [repCells_get hin2 hzp, hsz, Nat.mul_comm, Nat.mul_add_mod, Nat.mod_eq_of_lt (by omega)]
                exact zero_cells hleaf hj
              · exact .own (by omega) (Mem.addBlk_same _ _ _) (Nat.le_refl _) rfl (fun _ => .inr ⟨rfl, c'.toNat, by simp, by omega, by simp; omega, by simp⟩)
            · cases he
          · cases he
        · cases hd
          have rl := opd (a := a) (m := m) (k := k) (sl := sl) hl1 (fun t ht => hl t (by simp [h, Op.operands, ht]))
          have rc := opd (a := a) (m := m) (k := k) (sl := sl) hc1 (fun t ht => hl t (by simp [h, Op.operands, ht]))
          simp only [evPur] at he
          split at he
          · rename_i j1 l' j2 c' hl2 hc2
            split at he
            · rename_i hc
              cases he
              rw [hl2] at rl
              rw [hc2] at rc
              have el := int_inv rl
              have ec := int_inv rc
              obtain ⟨i', zv, hi', hzv, rfl, hsz, hleaf, hlt⟩ := zeroP_spec hz
              rw [hi] at hi'
              cases hi'
              have hzp : 0 < zv.cells.size := by omega
              obtain ⟨c0, c1', c2, c3⟩ := hc
              have c1 : l' ≤ c' := Int.le_of_eq c1'
              have wl : IntKind.i64.wrap l' = l' := by unfold IntKind.wrap; simp only [IntKind.bits, IntKind.signed]; simp; omega
              have wc : IntKind.i64.wrap c' = c' := by unfold IntKind.wrap; simp only [IntKind.bits, IntKind.signed]; simp; omega
              have hby : (i.bytes : Int) * c' ≤ 140737488355328 := by rw [Int.mul_comm]; exact c3
              have hszr : ∀ w : World, (sizeOf e).run P w = .ok i.size w := fun w => by simp [sizeOf, typeInfo, hi]
              have hrun : (execOp a.eval o).run P w = .ok (.value (.slice (some ⟨w.heap.size, 0, none⟩) l'.toNat c'.toNat)) (w.alloc (.cells (repCells zv (c'.toNat * i.size)) e)) := by
                simp only [execOp, h, el, ec]
                refine run_value ?_
                have hb1 : (decide (c' < 0) || decide ((i.bytes : Int) * c' > 281474976710656)) = false := by simp; omega
                simp only [Instr.makeSlice, Sem.run_bind, run_underlying hu, Result.andThen_ok, asInt, asIntOf, typeInfo, run_program, hi, Sem.run_pure, wl, wc]
                have hb2 : (decide (c' < 0) || decide ((i.bytes : Int) * c' > 2 ^ 48)) = false := by simp; omega
                have hb3 : (decide (l' < 0) || decide (l' > c')) = false := by simp; omega
                rw [if_neg (by rw [hb2]; simp; omega)]
                simp only [Sem.run_bind, run_askRoom, Result.andThen_ok, hszr]
                by_cases hz0 : c'.toNat * i.size = 0
                · simp only [hz0, if_true, Sem.run_bind, Sem.run_pure, Result.andThen_ok, map0, show repCells zv 0 = #[] from map0 _]
                  simp [newRow]
                · simp only [hz0, if_false, Sem.run_bind, zeroValue, typeInfo, run_program, Result.andThen_ok, hi, Sem.run_pure, hzv]
                  have : ((Array.range (c'.toNat * i.size)).map fun (j : Nat) => zv.cells[j % zv.cells.size]!) = repCells zv (c'.toNat * i.size) := rfl
                  rw [this]
                  simp [newRow]
              have hzl : (zv.cells.toList.map ofVal).length = i.size := by simp [hsz]
              subst c1'
              obtain ⟨q, rfl⟩ : ∃ q : Nat, l' = q := ⟨l'.toNat, by omega⟩
              simp only [Int.toNat_natCast] at hrun ⊢
              refine wp_of_run hrun (hn _ _ _ _ (PurOut.frozen (fun j => (repCells zv (q * i.size))[j]?) hin.frz hin.own hin.hB ((Below.refl _ _).alloc (Nat.le_refl _) _) (fun j v hv => ⟨by rw [World.cell?_alloc_new]; exact hv, ?_⟩) ?_))
              · have hjl : j < q * i.size := by have := (Array.getElem?_eq_some_iff.1 hv).1; simpa [repCells] using this
                rw [repCells_get hjl hzp] at hv
                obtain ⟨v', g1, g2, _⟩ := zero_cells (m := m) (j := j % zv.cells.size) (p := ofVal v) hleaf (by simp only [List.getElem?_map, Array.getElem?_toList, hv]; rfl)
                rw [hv] at g1
                cases g1
                exact g2
              · have key : ∀ (r : Nat) (row : List PV) (j : Nat) (p : PV), (List.replicate q (zv.cells.toList.map ofVal))[r]? = some row → row[j]? = some p → ∃ v, (repCells zv (q * i.size))[r * i.size + j]? = some v ∧ Rep m 0 p v := fun r row j p hr hj => by
                  have hr' := (List.getElem?_eq_some_iff.1 hr).1
                  simp at hr'
                  have hrow : row = zv.cells.toList.map ofVal := List.eq_of_mem_replicate (List.mem_of_getElem? hr)
                  subst hrow
                  have hj' := (List.getElem?_eq_some_iff.1 hj).1
                  rw [hzl] at hj'
                  have hin2 : r * i.size + j < q * i.size := by
                    have : (r + 1) * i.size ≤ q * i.size := Nat.mul_le_mul_right _ (by omega)
                    rw [Nat.add_mul] at this
                    omega
                  obtain ⟨v, g1, _, g3⟩ := zero_cells (m := m) hleaf hj
                  exact ⟨v, by rw [repCells_get hin2 hzp, hsz, Nat.mul_comm, Nat.mul_add_mod, Nat.mod_eq_of_lt (by omega)]; exact g1, g3⟩
                have hln : (List.replicate q (zv.cells.toList.map ofVal)).length = q := by simp
                have := Rep.sl (m := m.addFrz w.heap.size (fun j => (repCells zv (q * i.size))[j]?)) (k := k) (ex := true) (e := i.size) (rows := List.replicate q (zv.cells.toList.map ofVal)) (b := w.heap.size) (off := 0) (cap := q)
                  (vals := fun r j => ((repCells zv (q * i.size))[r * i.size + j]?).getD undef) (by rw [hln]; exact Nat.le_refl _) (by simp [maxLen]; omega) (fun _ => hln.symm) (fun r hr => by rw [List.eq_of_mem_replicate hr, hzl])
                  (fun r j row p hr hj => by
                    obtain ⟨v, g1, g2⟩ := key r row j p hr hj
                    simp [Mem.addFrz, g1])
                  (fun r j row p hr hj => by
                    obtain ⟨v, g1, g2⟩ := key r row j p hr hj
                    simp only [g1, Option.getD_some]
                    exact g2.re (fun b o u hu => by
                      have : b ≠ w.heap.size := fun e => by subst e; rw [frz_none hin.frz o (Nat.le_refl _)] at hu; cases hu
                      simp [Mem.addFrz, this, hu]))
                rw [hln] at this
                exact this
            · cases he
          · cases he
      · cases hd
    · cases hd
  · cases hd

theorem pur_alloc {t : TypeId} (h : o.op = .alloc t) : PurSound P call own o := by
  intro ao B k m w sl bl BL a p ns next Q hd he hl hin hn
  simp only [digOp, h] at hd
  split at hd
  · rename_i z hz
    have hne := zeroP_ne hz
    have main : ao = .alloc z → o.wp P a w next Q := by
      rintro rfl
      simp [evPur] at he
      obtain ⟨rfl, rfl⟩ := he
      obtain ⟨i, zv, hi, hzv, rfl, hsz, hleaf, hlt⟩ := zeroP_spec hz
      obtain ⟨h1, h3⟩ := hin.one
      have hrun : (execOp a.eval o).run P w = .ok (.value (.pointer (some ⟨w.heap.size, 0, none⟩))) (w.alloc (.cells zv.cells t)) := by
        simp [execOp, h, Instr.alloc, zeroValue, typeInfo, hi, hzv, newVar, newRow]
      refine wp_of_run hrun (hn _ _ _ _ (PurOut.new ⟨w.heap.size, 1, (zv.cells.toList.map ofVal).length, 1, 1, false⟩ hin.frz hin.own hin.hB h1 h3 ((Below.refl _ _).alloc (Nat.le_refl _) _) ⟨rfl, rfl, rfl, by simp, .inr ⟨rfl, zv.cells, t, heap_alloc_new w _, by simp, Nat.le_refl _, by simp [maxLen], ?_⟩, hne⟩ (fun _ => Nat.le_refl _) ?_))
      · rw [hlt]
        exact rowsIn_one (fun j p hj => zero_cells hleaf hj)
      · exact .ptr (by omega) (Mem.addBlk_same _ _ _) (Nat.le_refl _) rfl (fun _ _ => by simp)
    have arr : digArr P t z = some ao → o.wp P a w next Q := by
      intro hA
      unfold digArr at hA
      split at hA
      · rename_i n e hu
        split at hA
        · rename_i i hi
          split at hA
          · rename_i hc
            obtain ⟨c1, c2, c3, c4, c5⟩ := hc
            cases hA
            simp only [evPur] at he
            cases he
            obtain ⟨i', zv, hi', hzv, rfl, hsz, hleaf, hlt⟩ := zeroP_spec hz
            obtain ⟨h1, h3⟩ := hin.one
            have hrun : (execOp a.eval o).run P w = .ok (.value (.pointer (some ⟨w.heap.size, 0, none⟩))) (w.alloc (.cells zv.cells t)) := by
              simp [execOp, h, Instr.alloc, zeroValue, typeInfo, hi', hzv, newVar, newRow]
            refine wp_of_run hrun (hn _ _ _ _ (PurOut.new ⟨w.heap.size, n, i.size, n, n, false⟩ hin.frz hin.own hin.hB h1 h3 ((Below.refl _ _).alloc (Nat.le_refl _) _) ⟨rfl, rfl, (chunks_len _ _ _).symm, chunks_row c3, .inr ⟨rfl, zv.cells, t, heap_alloc_new w _, by simpa using c3, Nat.le_refl _, by simp [maxLen]; omega, ?_⟩, by simp only [mapE]; omega⟩ (fun _ => Nat.le_refl _) ?_))
            · rw [hlt]
              intro r row j q hr hj
              exact zero_cells hleaf (chunks_cell hr hj)
            · exact .ptr (by omega) (Mem.addBlk_same _ _ _) (Nat.le_refl _) rfl (fun _ _ => by simp)
          · cases hA
        · cases hA
      · cases hA
    split at hd
    · split at hd
      · rename_i a' ha'
        cases hd
        exact arr ha'
      · cases hd
        exact main rfl
    · cases hd
      exact main rfl
  · cases hd

theorem run_appz {w : World} {t u ty e : TypeId} {ik j : IntKind} {i : TypeInfo} {z : Value} {n : Int} {ad : Option Addr} (ht : P.underlying t = some (.slice e)) (hu : P.underlying u = some (.int ik)) (hi : P.info? e = some i) (hzv : i.zero = some z) (hs : 0 < i.size) (h0 : 0 < n) (h1 : n ≤ 140737488355328) (h2 : n * i.bytes ≤ 140737488355328) :
    ∃ cap, n.toNat ≤ cap ∧ cap ≤ maxLen ∧ (Builtin.append_ #[t, u] ty #[.slice ad 0 0, .int j n]).run P w =
      .ok (.slice (some ⟨w.heap.size, 0, none⟩) n.toNat cap) (w.drew.alloc (.cells (Builtin.zeroCells z.cells n.toNat ++ Builtin.zeroCells z.cells (cap - n.toNat)) e)) := by
  obtain ⟨q, rfl⟩ : ∃ q : Nat, n = q := ⟨n.toNat, by omega⟩
  simp only [Int.toNat_natCast]
  have wl : IntKind.i64.wrap (q : Int) = q := by unfold IntKind.wrap; simp only [IntKind.bits, IntKind.signed]; simp; omega
  have h2' : q * i.bytes ≤ 140737488355328 := by
    have : ((q * i.bytes : Nat) : Int) ≤ 140737488355328 := by rw [Int.natCast_mul]; exact h2
    omega
  have g1 : ¬ ((q : Int) < 0) := by omega
  have g2 : ¬ (281474976710656 < (q : Int) * i.bytes) := by omega
  have g3 : ¬ (9223372036854775807 < (q : Int)) := by omega
  have g4 : ¬ q = 0 := by omega
  have g5 : ¬ i.size = 0 := by omega
  have h48 := growslice_fits (need := q) (old := 0) (by omega) h2'
  have h48' : ¬ (281474976710656 < Builtin.nextslicecap q 0 * i.bytes) := by omega
  refine ⟨grownCap w q 0 e, grownCap_ge _ _ _ _, grownCap_le_maxLen _ _ _ _ (by simp [maxLen]; omega), ?_⟩
  have hf : ∀ w', (Builtin.firstCells i.size 0 (.slice ad 0 0)).run P w' = .ok #[] w' := fun w' => by cases ad <;> simp [Builtin.firstCells, loadCells, loadCellsFrom]
  simp [Builtin.append_, run_underlying ht, run_underlying hu, sizeOf, typeInfo, zeroValue, hi, hzv, asInt, asIntOf, wl, g1, g2, g3, g4, g5, h48', Question.forced, hf, newRow, grownCap]
  intro hq
  rcases Nat.mul_eq_zero.1 hq with hq | hq <;> omega

theorem pur_appz {c : Call} (h : o.op = .call c) (hcal : c.callee = .builtin .append) : PurSound P call own o := by
  intro ao B k m w sl bl BL a p ns next Q hd he hl hin hn
  simp only [digOp, h, hcal] at hd
  split at hd
  · rename_i args ha
    obtain ⟨g1, g2⟩ := opds (m := m) (k := k) (sl := sl) (a := a) c.args.toList args (fun t ht => hl t (call_ops hcal h t ht)) ha
    have hex := exec_builtin (a := a) hcal h
    generalize (c.args.map fun | .const _ => true | _ => false) = consts at hex
    have key : ∃ s x t u, args = [s, x] ∧ c.argTypes.toList = [t, u] := by
      generalize c.argTypes.toList = tys at hd
      rcases args with _ | ⟨s, _ | ⟨x, _ | ⟨y, r⟩⟩⟩ <;> rcases tys with _ | ⟨t, _ | ⟨u, _ | ⟨v, q⟩⟩⟩ <;> first
        | exact ⟨_, _, _, _, rfl, rfl⟩
        | (simp [digBuiltin] at hd; done)
    obtain ⟨s, x, t, u, rfl, hty⟩ := key
    rw [hty] at hd
    simp only [digBuiltin] at hd
    split at hd
    · rename_i e i hel
      have hne := elemP_ne hel
      obtain ⟨hu, hi⟩ := elemP_spec hel
      simp only at hu hi
      split at hd
      · rename_i z hz
        split at hd
        · rename_i hc0
          split at hd
          · cases hd; simp [evPur] at he
          · cases hd; simp [evPur] at he
          · rename_i ik huu
            split at hd
            · rename_i zp hzp
              cases hd
              have hlen : c.args.toList.length = 2 := by simpa using g1.symm
              obtain ⟨o1, o2, hoo⟩ : ∃ o1 o2, c.args.toList = [o1, o2] := by
                cases hq : c.args.toList with
                | nil => rw [hq] at hlen; simp at hlen
                | cons o1 r => cases r with
                  | nil => rw [hq] at hlen; simp at hlen
                  | cons o2 r => cases r with
                    | nil => exact ⟨o1, o2, rfl⟩
                    | cons o3 r => rw [hq] at hlen; simp at hlen
              have hargs : c.args = #[o1, o2] := by rw [← Array.toArray_toList (xs := c.args), hoo]
              have htys : c.argTypes = #[t, u] := by rw [← Array.toArray_toList (xs := c.argTypes), hty]
              have rs : Rep m k (s.ev sl) (a.eval o1) := by have := g2 0 (s.ev sl) rfl; rw [hoo] at this; simpa using this
              have rx : Rep m k (x.ev sl) (a.eval o2) := by have := g2 1 (x.ev sl) rfl; rw [hoo] at this; simpa using this
              rw [hargs, htys] at hex
              simp only [evPur] at he
              split at he
              · rename_i j n hs hx
                split at he
                · rename_i hc
                  cases he
                  rw [hs] at rs
                  rw [hx] at rx
                  obtain ⟨ad, e1⟩ := nilS_inv rs
                  have e2 := int_inv rx
                  obtain ⟨i', zv, hi', hzv, rfl, hsz, hleaf, hlt⟩ := zeroP_spec hzp
                  rw [hi] at hi'
                  cases hi'
                  obtain ⟨c0, c1, c2⟩ := hc
                  obtain ⟨cap, q1, q2, q3⟩ := run_appz (w := w) (ty := o.type) (ad := ad) (j := j) hu huu hi hzv hc0.2 c0 c1 c2
                  have hrun : (execOp a.eval o).run P w = .ok (.value (.slice (some ⟨w.heap.size, 0, none⟩) n.toNat cap)) (w.drew.alloc (.cells (Builtin.zeroCells zv.cells n.toNat ++ Builtin.zeroCells zv.cells (cap - n.toNat)) e)) := by
                    rw [hex]
                    simp [builtin, e1, e2, q3]
                  obtain ⟨h1, h3⟩ := hin.one
                  have hzl : (zv.cells.toList.map ofVal).length = zv.cells.size := by simp
                  have hzp : 0 < zv.cells.size := by omega
                  have hsz1 : ∀ q : Nat, (Builtin.zeroCells zv.cells q).size = q * i.size := fun q => by rw [size_zeroCells, hsz]
                  refine wp_of_run hrun (hn _ _ _ _ (PurOut.new ⟨w.heap.size, n.toNat, i.size, n.toNat, cap, false⟩ hin.frz hin.own hin.hB h1 h3 (((Below.refl _ _).drew).alloc (Nat.le_refl _) _) ⟨rfl, rfl, by simp, fun r hr => by rw [List.eq_of_mem_replicate hr, hzl, hsz], .inr ⟨rfl, _, e, heap_alloc_new w.drew _, by show _ = cap * i.size; rw [Array.size_append, hsz1, hsz1, ← Nat.add_mul]; congr 1; omega, q1, q2, ?_⟩, hne⟩ (fun _ => Nat.le_refl _) ?_))
                  · rw [hlt]
                    intro r row j' q hr hj
                    have hr' := (List.getElem?_eq_some_iff.1 hr).1
                    simp at hr'
                    have hrow : row = zv.cells.toList.map ofVal := List.eq_of_mem_replicate (List.mem_of_getElem? hr)
                    subst hrow
                    have hj' := (List.getElem?_eq_some_iff.1 hj).1
                    rw [hzl] at hj'
                    have hin2 : r * i.size + j' < n.toNat * i.size := by
                      have : (r + 1) * i.size ≤ n.toNat * i.size := Nat.mul_le_mul_right _ (by omega)
                      rw [Nat.add_mul] at this
                      omega
                    have e4 : Builtin.zeroCells zv.cells n.toNat = repCells zv (n.toNat * i.size) := by rw [← hsz]; rfl
                    rw [Array.getElem?_append_left (by rw [hsz1]; exact hin2), e4, repCells_get hin2 hzp, hsz, Nat.mul_comm, Nat.mul_add_mod, Nat.mod_eq_of_lt (by omega)]
                    exact zero_cells hleaf hj
                  · exact .own (by omega) (Mem.addBlk_same _ _ _) (Nat.le_refl _) rfl (fun _ => .inr ⟨rfl, cap, by simp, q1, by simp; omega, by simp⟩)
                · cases he
              · cases he
            · cases hd
          · cases hd
        · cases hd
      · cases hd
    · cases hd
  · cases hd

end
end Go.Proofs.YtidkdiooempkpaaDoor
