/- The pure reading of operations: values, operations, code and how they are computed. -/
import Derived.Orders
import Derived.Tactics
import Derived.Laws.AppendOwn
import Derived.Below
import Derived.KernelRfl
namespace Go.Proofs.Ytlnaibkpmklkiaa
open Go Go.RowKit

inductive PV where
  | bool (b : Bool)
  | int (k : IntKind) (n : Int)
  | str (s : List UInt8)
  | v (x : Value)
  | top
  | nilS
  | agg (cs : List PV)
  | tup (cs : List PV)
  | sl (ex : Bool) (e : Nat) (rows : List (List PV))
  | cptr (cells : List PV)
  | own (b ver lo len : Nat)
  | ptr (b ver r off : Nat)
  | fn (f : Nat) (caps : List PV)
  | fr (e : Nat) (rows : List (List PV))
  | mp (b ver : Nat)
  | nn
  | ob (o : Obj)
  deriving Inhabited

structure Blk where
  ver : Nat
  e : Nat
  flat : Bool
  rows : List (List PV)

abbrev Blks := List (Option Blk)

/-- how functions are called: with a copy of what they read, or upon the caller's own blocks -/
structure Cl where
  p : Nat → List PV → Option PV
  s : Nat → List PV → Blks → Option (PV × Blks)

structure St where
  sl : List PV
  bl : Blks

def PV.leaf : PV → Bool
  | .agg _ | .tup _ | .top | .fr _ _ => false
  | .v x => x.oneCell'
  | _ => true

/-- every reference in it is to a block below k -/
def PV.lt (k : Nat) : PV → Bool
  | .own b _ _ _ => Nat.blt b k
  | .ptr b _ _ _ => Nat.blt b k
  | .mp b _ => Nat.blt b k
  | .agg cs => ltL k cs
  | .tup cs => ltL k cs
  | .fn _ cs => ltL k cs
  | .fr _ _ => false
  | _ => true
where ltL (k : Nat) : List PV → Bool
  | [] => true
  | p :: r => PV.lt k p && ltL k r

/-- it speaks of no memory -/
def PV.noMem : PV → Bool
  | .own _ _ _ _ => false
  | .ptr _ _ _ _ => false
  | .mp _ _ => false
  | .agg cs => noMemL cs
  | .tup cs => noMemL cs
  | .fn _ cs => noMemL cs
  | .fr _ rows => noMemLL rows
  | .sl _ _ rows => rows.isEmpty
  | .cptr _ => false
  | _ => true
where
  noMemL : List PV → Bool
    | [] => true
    | p :: r => PV.noMem p && noMemL r
  noMemLL : List (List PV) → Bool
    | [] => true
    | p :: r => noMemL p && noMemLL r

def ofVal : Value → PV
  | .bool b => .bool b
  | .int k n => .int k n
  | .string s => .str s.data.toList
  | .slice none 0 0 => .nilS
  | .func (.func f) a c => if a.size = 0 ∧ c.size = 0 then .fn f [] else .v (.func (.func f) a c)
  | x => .v x

def PV.cells : PV → List PV
  | .agg cs => cs
  | p => [p]

/-- a cell's kind, where cells are compared -/
inductive KK where
  | b
  | i
  | s

inductive AO where
  | t (n : Nat)
  | c (p : PV)
def AO.ev (sl : List PV) : AO → PV
  | .t n => sl.getD n .top
  | .c p => p

inductive IxK where
  | slice (e : Nat)
  | array (n e : Nat)
inductive SlK where
  | string
  | slice (e : Nat)
inductive CvK where
  | int (k : IntKind)
  | same
  | toStr
  | toBytes

inductive AOp where
  | mov (x : AO)
  | nilv (e : Nat)
  | pick (c a b : AO)
  | alloc (zero : List PV)
  | box (x : AO)
  | build (zero : List PV) (parts : List (Nat × Nat × AO))
  | bslice (own : Bool) (e : Nat) (zero : List PV) (n : Nat) (parts : List (Nat × AO))
  | load (n : Nat) (agg : Bool) (a : AO)
  | store (n : Nat) (a x : AO)
  | nilck (x : AO)
  | bin (op : BinOp) (x y : AO)
  | beq (neg : Bool) (x y : AO)
  | beqA (neg : Bool) (ks : List KK) (x y : AO)
  | un (op : UnOp) (x : AO)
  | conv (k : CvK) (x : AO)
  | make (e by_ : Nat) (zero : List PV) (l c : AO)
  | slc (k : SlK) (x : AO) (lo hi mx : Option AO)
  | faddr (off : Nat) (a : AO)
  | fld (off n : Nat) (agg : Bool) (x : AO)
  | iaddr (k : IxK) (x i : AO)
  | idxA (n e : Nat) (agg : Bool) (x i : AO)
  | idxS (x i : AO)
  | ext (x : AO) (i : Nat)
  | len (x : AO)
  | lenS (x : AO)
  | lenM (x : AO)
  | lenC (n : Nat)
  | capN (x : AO)
  | appz (e by_ : Nat) (zero : List PV) (s x : AO)
  | alloca (e n : Nat) (zero : List PV)
  | makez (e by_ : Nat) (zero : List PV) (l c : AO)
  | asl (e n : Nat) (x : AO) (hi : Option AO)
  | append (e by_ : Nat) (s x : AO)
  | copy (e : Nat) (d s : AO)
  | clr (e : Nat) (zero : List PV) (d : AO)
  | min (xs : List AO)
  | max (xs : List AO)
  | call (own : Bool) (f : Nat) (args : List AO)
  | calld (own : Bool) (f : AO) (args : List AO)
  | mkfn (f : Nat) (caps : List AO)
  | callS (f : Nat) (args : List AO)
  | mkmap (h : Option AO)
  | mget (ok : Bool) (ks : List KK) (ag : Bool) (zero : PV) (m k : AO)
  | mset (ks : List KK) (ag : Bool) (m k v : AO)
  | mdel (ks : List KK) (ag : Bool) (m k : AO)
  | nilq (s neg : Bool) (x : AO)

def eq1 : KK → PV → PV → Option Bool
  | .b, .bool a, .bool b => some (a == b)
  | .i, .int k a, .int k' b => if k = k' then some (a == b) else none
  | .s, .str a, .str b => some (a == b)
  | _, _, _ => none
def eqL : List KK → List PV → List PV → Option Bool
  | [], [], [] => some true
  | c :: ks, a :: as, b :: bs => match eq1 c a b, eqL ks as bs with
    | some x, some y => some (x && y)
    | _, _ => none
  | _, _, _ => none

/-- a block that is a map: its rows are pairs of a key and a value -/
def mapE : Nat := 1000000000
/-- a block whose object is known as it stands: its one row holds it -/
def iterE : Nat := 1000000001
def getB (bl : Blks) (b ver : Nat) : Option Blk :=
  match bl[b]? with
  | some (some x) => if x.ver = ver ∧ x.e < mapE then some x else none
  | _ => none
def getM (bl : Blks) (b ver : Nat) : Option Blk :=
  match bl[b]? with
  | some (some x) => if x.ver = ver ∧ x.e = mapE then some x else none
  | _ => none

/-- a key's cells -/
def keyC (ag : Bool) : PV → Option (List PV)
  | .agg cs => if ag then some cs else none
  | .int k n => if ag then none else some [.int k n]
  | .str s => if ag then none else some [.str s]
  | .bool b => if ag then none else some [.bool b]
  | _ => none
def mapRows (bl : Blks) : PV → Option (List (List PV))
  | .mp b ver => match getM bl b ver with
    | some x => some x.rows
    | none => none
  | .v (.map none) => some []
  | _ => none
/-- where a key stands -/
def mfind (ks : List KK) (ag : Bool) (key : List PV) : List (List PV) → Nat → Option (Option (Nat × PV))
  | [], _ => some none
  | [kp, v] :: r, i => match keyC ag kp with
    | some cs => match eqL ks key cs with
      | some true => some (some (i, v))
      | some false => mfind ks ag key r (i + 1)
      | none => none
    | none => none
  | _ :: _, _ => none

def mapO {α β : Type} (f : α → Option β) : List α → Option (List β)
  | [] => some []
  | a :: r => match f a with
    | some b => match mapO f r with
      | some bs => some (b :: bs)
      | none => none
    | none => none

/-- a value lent: what it refers to is written out -/
def cls : Nat → Blks → PV → Option PV
  | 0, _, _ => none
  | n + 1, bl, p => if p.lt 0 then some p else match p with
    | .own b ver lo len => match getB bl b ver with
      | some x => if lo + len ≤ x.rows.length then
          match (if x.flat then some x.rows else mapO (mapO (cls n bl)) x.rows) with
          | some rs => some (.sl false x.e ((rs.drop lo).take len))
          | none => none
        else none
      | none => none
    | .ptr b ver r off => match getB bl b ver with
      | some x => match x.rows[r]? with
        | some row => match (if x.flat then some row else mapO (cls n bl) row) with
          | some row => some (.cptr (row.drop off))
          | none => none
        | none => none
      | none => none
    | .agg cs => match mapO (cls n bl) cs with | some cs => some (.agg cs) | none => none
    | .tup cs => match mapO (cls n bl) cs with | some cs => some (.tup cs) | none => none
    | .fn f cs => match mapO (cls n bl) cs with | some cs => some (.fn f cs) | none => none
    | _ => none

/-- the fresh slices of a result, as blocks -/
def impB : PV → List Blk
  | .fr e rows => [⟨rows.length, e, true, rows⟩]
  | .agg cs => impBL cs
  | .tup cs => impBL cs
  | _ => []
where impBL : List PV → List Blk
  | [] => []
  | p :: r => impB p ++ impBL r
/-- a result whose fresh slices are the blocks from k on -/
def impV : Nat → PV → PV
  | k, .fr _ rows => .own k rows.length 0 rows.length
  | k, .agg cs => .agg (impVL k cs)
  | k, .tup cs => .tup (impVL k cs)
  | _, p => p
where impVL : Nat → List PV → List PV
  | _, [] => []
  | k, p :: r => impV k p :: impVL (k + (impB p).length) r

/-- a result whose fresh slices are never written -/
def unfr : PV → PV
  | .fr e rows => .sl false e rows
  | .agg cs => .agg (unfrL cs)
  | .tup cs => .tup (unfrL cs)
  | p => p
where unfrL : List PV → List PV
  | [] => []
  | p :: r => unfr p :: unfrL r

/-- the blocks that a result hands out whole (g: or cut behind) -/
def frIds (g : Bool) (bl : Blks) : PV → List Nat
  | .own b ver lo len => match getB bl b ver with
    | some x => if lo = 0 ∧ len = x.rows.length then [b] else if lo = 0 ∧ len = 0 then [b] else if g = true ∧ lo = 0 ∧ len ≤ x.rows.length then [b] else []
    | none => []
  | .agg cs => frIdsL g bl cs
  | .tup cs => frIdsL g bl cs
  | _ => []
where frIdsL (g : Bool) (bl : Blks) : List PV → List Nat
  | [] => []
  | p :: r => frIds g bl p ++ frIdsL g bl r

def hasN (b : Nat) : List Nat → Bool
  | [] => false
  | c :: r => Nat.beq b c || hasN b r
def nodupN : List Nat → Bool
  | [] => true
  | c :: r => !hasN c r && nodupN r

def kill (ids : List Nat) (bl : Blks) : Blks := ids.foldl (fun bl b => bl.set b none) bl

def clsFuel : Nat := 20

/-- a result, with its whole blocks written out as fresh slices -/
def expo (g : Bool) (bl bl0 : Blks) (ids : List Nat) : PV → Option PV
  | .own b ver lo len => if hasN b ids then match getB bl b ver with
      | some x => match (if x.flat then some x.rows else mapO (mapO (cls clsFuel bl0)) x.rows) with
        | some rs => if lo = 0 ∧ len = x.rows.length then some (.fr x.e rs) else if lo = 0 ∧ len = 0 then some (.fr x.e []) else if g = true ∧ lo = 0 ∧ len ≤ x.rows.length then some (.fr x.e (rs.take len)) else none
        | none => none
      | none => none
    else cls clsFuel bl0 (.own b ver lo len)
  | .agg cs => match expoL g bl bl0 ids cs with | some cs => some (.agg cs) | none => none
  | .tup cs => match expoL g bl bl0 ids cs with | some cs => some (.tup cs) | none => none
  | p => cls clsFuel bl0 p
where expoL (g : Bool) (bl bl0 : Blks) (ids : List Nat) : List PV → Option (List PV)
  | [] => some []
  | p :: r => match expo g bl bl0 ids p with
    | some q => match expoL g bl bl0 ids r with
      | some qs => some (q :: qs)
      | none => none
    | none => none

def expoG (g : Bool) (bl : Blks) (p : PV) : Option PV :=
  let ids := frIds g bl p
  if nodupN ids then expo g bl (kill ids bl) ids p else none
def expoAll (bl : Blks) (p : PV) : Option PV :=
  match expoG true bl p with
  | some r => some r
  | none => expoG false bl p

def rowsOf (e0 : Nat) (bl : Blks) : PV → Option (List (List PV))
  | .sl _ e rows => if e = e0 then some rows else none
  | .nilS => some []
  | .own b ver lo len => match getB bl b ver with
    | some x => if lo + len ≤ x.rows.length ∧ x.e = e0 then some ((x.rows.drop lo).take len) else none
    | none => none
  | _ => none

def fillP : List PV → List (Nat × Nat × PV) → Option (List PV)
  | cs, [] => some cs
  | cs, (off, n, p) :: r =>
    let q := p.cells
    if q.length = n ∧ off + n ≤ cs.length ∧ q.all PV.leaf = true then fillP (cs.take off ++ q ++ cs.drop (off + n)) r else none

def binP (op : BinOp) : PV → PV → Option PV
  | .int k a, .int k' b => match op with
    | .shl => if 0 ≤ b then some (.int k (k.wrap (a * 2 ^ (Nat.min b.toNat k.bits)))) else none
    | .shr => if 0 ≤ b then some (.int k (a.fdiv (2 ^ (Nat.min b.toNat k.bits)))) else none
    | op => if k = k' then match op with
      | .add => some (.int k (k.wrap (a + b)))
      | .sub => some (.int k (k.wrap (a - b)))
      | .mul => some (.int k (k.wrap (a * b)))
      | .quo => if b = 0 then none else some (.int k (k.wrap (a.tdiv b)))
      | .rem => if b = 0 then none else some (.int k (a.tmod b))
      | .and => some (.int k (k.wrap (BitVec.ofInt k.bits a &&& BitVec.ofInt k.bits b).toNat))
      | .or => some (.int k (k.wrap (BitVec.ofInt k.bits a ||| BitVec.ofInt k.bits b).toNat))
      | .xor => some (.int k (k.wrap (BitVec.ofInt k.bits a ^^^ BitVec.ofInt k.bits b).toNat))
      | .andNot => some (.int k (k.wrap (BitVec.ofInt k.bits a &&& ~~~ (BitVec.ofInt k.bits b)).toNat))
      | .eql => some (.bool (a == b))
      | .neq => some (.bool (a != b))
      | .lss => some (.bool (decide (a < b)))
      | .leq => some (.bool (decide (a ≤ b)))
      | .gtr => some (.bool (decide (a > b)))
      | .geq => some (.bool (decide (a ≥ b)))
      | _ => none
      else none
  | .str a, .str b => match op with
    | .add => if a.length + b.length ≤ 9223372036854775807 then some (.str (a ++ b)) else none
    | .eql => some (.bool (a == b))
    | .neq => some (.bool (!(a == b)))
    | .lss => some (.bool (Op.bytesLess a b))
    | .leq => some (.bool (Op.bytesLess a b || a == b))
    | .gtr => some (.bool (!(Op.bytesLess a b || a == b)))
    | .geq => some (.bool (!Op.bytesLess a b))
    | _ => none
  | _, _ => none

def unP (op : UnOp) : PV → Option PV
  | .int k a => match op with
    | .neg => some (.int k (k.wrap (0 - a)))
    | .xor => some (.int k (k.wrap (BitVec.ofInt k.bits (if k.signed then -1 else k.max) ^^^ BitVec.ofInt k.bits a).toNat))
    | _ => none
  | .bool b => match op with
    | .not => some (.bool (!b))
    | _ => none
  | _ => none

def bytesOfRows : List (List PV) → Option (List UInt8)
  | [] => some []
  | [.int .u8 n] :: r => match bytesOfRows r with
    | some bs => some (UInt8.ofNat n.toNat :: bs)
    | none => none
  | _ => none
def rowsOfBytes (s : List UInt8) : List (List PV) := s.map fun b => [.int .u8 (b.toNat : Int)]

def optI (sl : List PV) (d : Nat) : Option AO → Option Int
  | none => some d
  | some x => match x.ev sl with
    | .int _ n => some n
    | _ => none

def minP : PV → PV → Option PV
  | .int k x, .int _ y => some (.int k (if y < x then y else x))
  | _, _ => none
def maxP : PV → PV → Option PV
  | .int k x, .int _ y => some (.int k (if x < y then y else x))
  | _, _ => none
def foldP (f : PV → PV → Option PV) : PV → List PV → Option PV
  | p, [] => some p
  | p, q :: r => match f p q with
    | some s => foldP f s r
    | none => none

/-- arguments of which nothing was lent -/
def thinL : List PV → List PV → Bool
  | p :: ps, q :: qs => (p.lt 0 || q.noMem) && thinL ps qs
  | _, _ => true

def callP (call : Nat → List PV → Option PV) (bl : Blks) (own : Bool) (f : Nat) (args : List PV) : Option (PV × List Blk) :=
  if PV.lt.ltL 0 args then match call f args with
    | some r => if own then some (impV bl.length r, impB r) else if (unfr r).lt 0 then some (unfr r, []) else none
    | none => none
  else match mapO (cls clsFuel bl) args with
    | some qs => match call f qs with
      | some r => if (r.noMem || thinL args qs) = true then if own then some (impV bl.length r, impB r) else if (unfr r).lt 0 then some (unfr r, []) else none else none
      | none => none
    | none => none

def scal (agg : Bool) (cs : List PV) : Option PV :=
  if agg then some (.agg cs) else match cs with
    | [p] => some p
    | _ => none

/-- the operations that change no block -/
def evPur (call : Cl) (sl : List PV) (bl : Blks) : AOp → Option (PV × List Blk)
  | .mov x => some (x.ev sl, [])
  | .nilv e => some (.own bl.length 0 0 0, [⟨0, e, true, []⟩])
  | .pick c a b => match c.ev sl with
    | .bool t => some (if t then a.ev sl else b.ev sl, [])
    | _ => none
  | .alloc z => some (.ptr bl.length 1 0 0, [⟨1, z.length, PV.lt.ltL 0 z, [z]⟩])
  | .makez e by_ z l c => match l.ev sl, c.ev sl with
    | .int _ l, .int _ c => if 0 ≤ l ∧ l = c ∧ c ≤ 140737488355328 ∧ c * by_ ≤ 140737488355328 then some (.sl true e (List.replicate l.toNat z), []) else none
    | _, _ => none
  | .alloca e n z => some (.ptr bl.length n 0 0, [⟨n, e, PV.lt.ltL 0 z, chunks e n z⟩])
  | .asl e n x hi => match x.ev sl with
    | .ptr b ver r off => match getB bl b ver with
      | some k => match optI sl n hi with
        | some h => if r = 0 ∧ off = 0 ∧ k.e = e ∧ k.rows.length = n ∧ 0 < n ∧ 0 ≤ h ∧ h ≤ n then some (.own b ver 0 h.toNat, []) else none
        | none => none
      | none => none
    | _ => none
  | .box x => if (x.ev sl).cells.all PV.leaf = true ∧ (x.ev sl).cells.length < mapE then some (.ptr bl.length 1 0 0, [⟨1, (x.ev sl).cells.length, PV.lt.ltL 0 (x.ev sl).cells, [(x.ev sl).cells]⟩]) else none
  | .build z parts => match fillP z (parts.map fun q => (q.1, q.2.1, q.2.2.ev sl)) with
    | some cs => some (.agg cs, [])
    | none => none
  | .load n agg a => match a.ev sl with
    | .ptr b ver r off => match getB bl b ver with
      | some x => match x.rows[r]? with
        | some row => if off + n ≤ row.length then match scal agg ((row.drop off).take n) with
            | some p => some (p, [])
            | none => none
          else none
        | none => none
      | none => none
    | .cptr cells => if n ≤ cells.length then match scal agg (cells.take n) with
        | some p => some (p, [])
        | none => none
      else none
    | _ => none
  | .nilck x => match x.ev sl with
    | .ptr b ver r off => match getB bl b ver with
      | some k => match k.rows[r]? with
        | some _ => some (.ptr b ver r off, [])
        | none => none
      | none => none
    | .cptr cells => some (.cptr cells, [])
    | .fn f caps => some (.fn f caps, [])
    | _ => none
  | .bin op x y => match binP op (x.ev sl) (y.ev sl) with
    | some p => some (p, [])
    | none => none
  | .beq neg x y => match x.ev sl, y.ev sl with
    | .bool a, .bool b => some (.bool (if neg then !(a == b) else a == b), [])
    | _, _ => none
  | .beqA neg ks x y => match x.ev sl, y.ev sl with
    | .agg ps, .agg qs => match eqL ks ps qs with
      | some b => some (.bool (if neg then !b else b), [])
      | none => none
    | _, _ => none
  | .nilq s neg x => match s, x.ev sl with
    | true, .sl _ _ (_ :: _) => some (.bool neg, [])
    | false, .v .nilIface => some (.bool (!neg), [])
    | false, .v (.iface _ _) => some (.bool neg, [])
    | false, .nn => some (.bool neg, [])
    | _, _ => none
  | .un op x => match unP op (x.ev sl) with
    | some p => some (p, [])
    | none => none
  | .conv k x => match k, x.ev sl with
    | .int k, .int _ n => some (.int k (k.wrap n), [])
    | .same, .str s => some (.str s, [])
    | .toStr, p => match rowsOf 1 bl p with
      | some rows => match bytesOfRows rows with
        | some s => some (.str s, [])
        | none => none
      | none => none
    | _, _ => none
  | .faddr off a => match a.ev sl with
    | .ptr b ver r o => match getB bl b ver with
      | some k => match k.rows[r]? with
        | some _ => some (.ptr b ver r (o + off), [])
        | none => none
      | none => none
    | .cptr cells => some (.cptr (cells.drop off), [])
    | _ => none
  | .fld off n agg x => match x.ev sl with
    | .agg cs => if off + n ≤ cs.length then match scal agg ((cs.drop off).take n) with
        | some p => some (p, [])
        | none => none
      else none
    | _ => none
  | .iaddr k x i => match i.ev sl with
    | .int _ i => if 0 ≤ i then match k with
      | .slice e0 => match x.ev sl with
        | .sl _ e rows => if e = e0 then match rows[i.toNat]? with
          | some row => some (.cptr row, [])
          | none => none
          else none
        | .own b ver lo len => match getB bl b ver with
          | some k => if i.toNat < len ∧ lo + len ≤ k.rows.length ∧ k.e = e0 then some (.ptr b ver (lo + i.toNat) 0, []) else none
          | none => none
        | _ => none
      | .array n e => if i.toNat < n then match x.ev sl with
        | .ptr b ver r o => match getB bl b ver with
          | some k => if k.e = e ∧ o = 0 then match k.rows[r + i.toNat]? with
              | some _ => some (.ptr b ver (r + i.toNat) 0, [])
              | none => none
            else match k.rows[r]? with
            | some _ => some (.ptr b ver r (o + i.toNat * e), [])
            | none => none
          | none => none
        | .cptr cells => some (.cptr (cells.drop (i.toNat * e)), [])
        | _ => none
        else none
      else none
    | _ => none
  | .idxS x i => match x.ev sl, i.ev sl with
    | .str s, .int _ i => if 0 ≤ i then match s[i.toNat]? with
        | some b => some (.int .u8 (b.toNat : Int), [])
        | none => none
      else none
    | _, _ => none
  | .idxA n e agg x i => match x.ev sl, i.ev sl with
    | .agg cs, .int _ i => if 0 ≤ i ∧ i.toNat < n ∧ i.toNat * e + e ≤ cs.length then match scal agg ((cs.drop (i.toNat * e)).take e) with
        | some p => some (p, [])
        | none => none
      else none
    | _, _ => none
  | .ext x i => match x.ev sl with
    | .tup cs => match cs[i]? with
      | some p => some (p, [])
      | none => none
    | _ => none
  | .lenM x => match mapRows bl (x.ev sl) with
    | some rows => some (.int .i64 rows.length, [])
    | none => none
  | .lenS x => match x.ev sl with
    | .str s => some (.int .i64 s.length, [])
    | _ => none
  | .len x => match x.ev sl with
    | .sl _ _ rows => some (.int .i64 rows.length, [])
    | .nilS => some (.int .i64 0, [])
    | .own b ver _ len => match getB bl b ver with
      | some _ => some (.int .i64 len, [])
      | none => none
    | _ => none
  | .lenC n => some (.int .i64 n, [])
  | .capN x => match x.ev sl with
    | .nilS => some (.int .i64 0, [])
    | _ => none
  | .min xs => match xs.map (·.ev sl) with
    | p :: r => match foldP minP p r with
      | some p => some (p, [])
      | none => none
    | [] => none
  | .max xs => match xs.map (·.ev sl) with
    | p :: r => match foldP maxP p r with
      | some p => some (p, [])
      | none => none
    | [] => none
  | .slc k x lo hi mx => match k with
    | .string => match x.ev sl, optI sl 0 lo, mx with
      | .str s, some l, none => match optI sl s.length hi with
        | some h => if 0 ≤ l ∧ l ≤ h ∧ h ≤ s.length then some (.str ((s.take h.toNat).drop l.toNat), []) else none
        | none => none
      | _, _, _ => none
    | .slice e0 => match x.ev sl, optI sl 0 lo with
      | .sl ex e rows, some l => if e = e0 then match optI sl rows.length hi with
        | some h => match mx with
          | none => if 0 ≤ l ∧ l ≤ h ∧ h ≤ rows.length then some (.sl (ex && h == rows.length) e ((rows.take h.toNat).drop l.toNat), []) else none
          | some mx => match mx.ev sl with
            | .int _ m => if 0 ≤ l ∧ l ≤ h ∧ h ≤ m ∧ m ≤ rows.length then some (.sl (h == m) e ((rows.take h.toNat).drop l.toNat), []) else none
            | _ => none
        | none => none
        else none
      | .nilS, some l => match optI sl 0 hi, optI sl 0 mx with
        | some h, some m => if l = 0 ∧ h = 0 ∧ m = 0 then some (.nilS, []) else none
        | _, _ => none
      | .own b ver lo0 len, some l => match getB bl b ver with
        | some k => if k.e = e0 then match optI sl len hi with
          | some h => match mx with
            | none => if 0 ≤ l ∧ l ≤ h ∧ h ≤ len then some (.own b ver (lo0 + l.toNat) (h.toNat - l.toNat), []) else none
            | some mx => match mx.ev sl with
              | .int _ m => if l = 0 ∧ h = 0 ∧ m = 0 then some (.nilS, []) else none
              | _ => none
          | none => none
          else none
        | none => none
      | _, _ => none
  | .bslice own e z n parts => match fillP ((List.replicate n z).flatten) (parts.map fun q => (q.1 * e, e, q.2.ev sl)) with
    | some cs => if cs.all PV.leaf then
        if own || !PV.lt.ltL 0 cs then some (.own bl.length n 0 n, [⟨n, e, PV.lt.ltL 0 cs, chunks e n cs⟩])
        else some (.sl true e (chunks e n cs), []) else none
    | none => none
  | .make e by_ z l c => match l.ev sl, c.ev sl with
    | .int _ l, .int _ c => if 0 ≤ l ∧ l ≤ c ∧ c ≤ 140737488355328 ∧ c * by_ ≤ 140737488355328 then
        some (.own bl.length l.toNat 0 l.toNat, [⟨l.toNat, e, PV.lt.ltL 0 z, List.replicate l.toNat z⟩]) else none
    | _, _ => none
  | .appz e by_ z s x => match s.ev sl, x.ev sl with
    | .nilS, .int _ n => if 0 < n ∧ n ≤ 140737488355328 ∧ n * by_ ≤ 140737488355328 then
        some (.own bl.length n.toNat 0 n.toNat, [⟨n.toNat, e, PV.lt.ltL 0 z, List.replicate n.toNat z⟩]) else none
    | _, _ => none
  | .call own f args => callP call.p bl own f (args.map (·.ev sl))
  | .calld own f args => match f.ev sl with
    | .fn g caps => callP call.p bl own g (args.map (·.ev sl) ++ caps)
    | _ => none
  | .mkfn f caps => some (.fn f (caps.map (·.ev sl)), [])
  | .mkmap h => match h with
    | none => some (.mp bl.length 0, [⟨0, mapE, true, []⟩])
    | some x => match x.ev sl with
      | .int _ _ => some (.mp bl.length 0, [⟨0, mapE, true, []⟩])
      | _ => none
  | .mget ok ks ag z m k => match keyC ag (k.ev sl), mapRows bl (m.ev sl) with
    | some kc, some rows => match eqL ks kc kc with
      | some true => match mfind ks ag kc rows 0 with
        | some (some (_, v)) => some (if ok then .tup [v, .bool true] else v, [])
        | some none => some (if ok then .tup [z, .bool false] else z, [])
        | none => none
      | _ => none
    | _, _ => none
  | _ => none
where chunks (e : Nat) : Nat → List PV → List (List PV)
  | 0, _ => []
  | n + 1, cs => cs.take e :: chunks e n (cs.drop e)

/-- the operations that change a block -/
def evEff (call : Cl) (sl : List PV) (bl : Blks) : AOp → Option (PV × Blks)
  | .store n a x => match a.ev sl with
    | .ptr b ver r off => match getB bl b ver with
      | some k => match k.rows[r]? with
        | some row =>
          let q := (x.ev sl).cells
          if q.length = n ∧ off + n ≤ row.length ∧ q.all PV.leaf = true then
            some (.top, bl.set b (some ⟨k.ver, k.e, k.flat && PV.lt.ltL 0 q, k.rows.set r (row.take off ++ q ++ row.drop (off + n))⟩)) else none
        | none => none
      | none => none
    | _ => none
  | .append e by_ s x => match (match x.ev sl with | .str t => if e = 1 then some (rowsOfBytes t) else none | p => rowsOf e bl p) with
    | some news => match s.ev sl with
      | .nilS => if news.length * by_ ≤ 140737488355328 ∧ news.length ≤ 140737488355328 then
          some (.own bl.length news.length 0 news.length, bl ++ [some ⟨news.length, e, news.all (PV.lt.ltL 0), news⟩]) else none
      | .sl true e' rows => if e' = e ∧ 0 < news.length ∧ (rows.length + news.length) * by_ ≤ 140737488355328 ∧ rows.length + news.length ≤ 140737488355328 then
          some (.own bl.length (rows.length + news.length) 0 (rows.length + news.length), bl ++ [some ⟨rows.length + news.length, e, news.all (PV.lt.ltL 0), rows ++ news⟩]) else none
      | .own b ver lo len => match getB bl b ver with
        | some k => if k.e = e ∧ lo = 0 ∧ len = k.rows.length ∧ (len + news.length) * by_ ≤ 140737488355328 ∧ len + news.length ≤ 140737488355328 then
            some (.own b (k.ver + news.length) 0 (len + news.length), bl.set b (some ⟨k.ver + news.length, e, k.flat && news.all (PV.lt.ltL 0), k.rows ++ news⟩))
          else if k.e = e ∧ lo + len + news.length ≤ k.rows.length then
            some (.own b ver lo (len + news.length), bl.set b (some ⟨k.ver, e, k.flat && news.all (PV.lt.ltL 0), k.rows.take (lo + len) ++ news ++ k.rows.drop (lo + len + news.length)⟩))
          else none
        | none => none
      | _ => none
    | none => none
  | .copy e d s => match d.ev sl, (match s.ev sl with | .str t => if e = 1 then some (rowsOfBytes t) else none | p => rowsOf e bl p) with
    | .own b ver lo len, some news => match getB bl b ver with
      | some k =>
        let n := Nat.min news.length len
        if lo + len ≤ k.rows.length ∧ k.e = e then
          some (.int .i64 n, bl.set b (some ⟨k.ver, k.e, k.flat && news.all (PV.lt.ltL 0), k.rows.take lo ++ news.take n ++ k.rows.drop (lo + n)⟩)) else none
      | none => none
    | _, _ => none
  | .clr e z d => match d.ev sl with
    | .own b ver lo len => match getB bl b ver with
      | some k => if lo + len ≤ k.rows.length ∧ k.e = e then
          some (.top, bl.set b (some ⟨k.ver, k.e, k.flat && PV.lt.ltL 0 z, k.rows.take lo ++ List.replicate len z ++ k.rows.drop (lo + len)⟩)) else none
      | none => none
    | _ => none
  | .mset ks ag m k v => match keyC ag (k.ev sl), m.ev sl with
    | some kc, .mp b ver => match getM bl b ver with
      | some x => match eqL ks kc kc with
        | some true => match mfind ks ag kc x.rows 0 with
          | some (some (i, _)) => some (.top, bl.set b (some ⟨x.ver, x.e, x.flat && PV.lt.ltL 0 [k.ev sl, v.ev sl], x.rows.set i [k.ev sl, v.ev sl]⟩))
          | some none => some (.top, bl.set b (some ⟨x.ver, x.e, x.flat && PV.lt.ltL 0 [k.ev sl, v.ev sl], x.rows ++ [[k.ev sl, v.ev sl]]⟩))
          | none => none
        | _ => none
      | none => none
    | _, _ => none
  | .mdel ks ag m k => match keyC ag (k.ev sl), m.ev sl with
    | some kc, .mp b ver => match getM bl b ver with
      | some x => match eqL ks kc kc with
        | some true => match mfind ks ag kc x.rows 0 with
          | some (some (i, _)) => some (.top, bl.set b (some ⟨x.ver, x.e, x.flat, x.rows.eraseIdx i⟩))
          | some none => some (.top, bl.set b (some ⟨x.ver, x.e, x.flat, x.rows⟩))
          | none => none
        | _ => none
      | none => none
    | _, _ => none
  | .callS f args => match call.s f (args.map (·.ev sl)) bl with
    | some (p, bl') => if bl.length ≤ bl'.length then some (p, bl') else none
    | none => none
  | _ => none

def AOp.isEff : AOp → Bool
  | .store _ _ _ => true
  | .append _ _ _ _ => true
  | .copy _ _ _ => true
  | .clr _ _ _ => true
  | .callS _ _ => true
  | .mset _ _ _ _ _ => true
  | .mdel _ _ _ _ => true
  | _ => false

structure AOper where
  dst : Option Nat
  guard : Option (Nat × Bool)
  op : AOp

def putP (sl : List PV) (d : Option Nat) (p : PV) : List PV :=
  match d with
  | some d => sl.set d p
  | none => sl

def evOp (call : Cl) (st : St) (o : AOper) : Option St :=
  if o.op.isEff then match evEff call st.sl st.bl o.op with
    | some (p, bl) => some ⟨putP st.sl o.dst p, bl⟩
    | none => none
  else match evPur call st.sl st.bl o.op with
    | some (p, ns) => some ⟨putP st.sl o.dst p, st.bl ++ ns.map some⟩
    | none => none

def evOne (call : Cl) (st : St) (o : AOper) : Option St :=
  match o.guard with
  | none => evOp call st o
  | some (s, want) => match st.sl.getD s .top with
    | .bool b => if b = want then evOp call st o else some ⟨putP st.sl o.dst (.v (.tuple #[])), st.bl⟩
    | .v (.tuple _) => some ⟨putP st.sl o.dst (.v (.tuple #[])), st.bl⟩
    | _ => none

def evOps (call : Cl) : List AOper → St → Option St
  | [], st => some st
  | o :: r, st => match evOne call st o with
    | some st => evOps call r st
    | none => none

/-- the block that a value refers to -/
def rdP : PV → List Nat
  | .ptr b _ _ _ => [b]
  | .own b _ _ _ => [b]
  | _ => []
/-- the blocks that an operation looks at which makes none and changes none -/
def softRd (sl : List PV) : AOp → Option (List Nat)
  | .load _ _ a => some (rdP (a.ev sl))
  | .faddr _ a => some (rdP (a.ev sl))
  | .len x => some (rdP (x.ev sl))
  | .iaddr _ x _ => some (rdP (x.ev sl))
  | .bslice own e z n parts => if own then none else match fillP ((List.replicate n z).flatten) (parts.map fun q => (q.1 * e, e, q.2.ev sl)) with
    | some cs => if PV.lt.ltL 0 cs then some [] else none
    | none => none
  | _ => none
/-- the blocks that an operation changes -/
def effTg (sl : List PV) : AOp → Option (List Nat)
  | .store _ a _ => match a.ev sl with
    | .ptr b _ _ _ => some [b]
    | _ => none
  | .append _ _ s _ => match s.ev sl with
    | .own b _ _ _ => some [b]
    | .nilS => some []
    | .sl true _ _ => some []
    | _ => none
  | .copy _ d _ => match d.ev sl with
    | .own b _ _ _ => some [b]
    | _ => none
  | .clr _ _ d => match d.ev sl with
    | .own b _ _ _ => some [b]
    | _ => none
  | .mset _ _ m _ _ => match m.ev sl with
    | .mp b _ => some [b]
    | _ => none
  | .mdel _ _ m _ => match m.ev sl with
    | .mp b _ => some [b]
    | _ => none
  | _ => none
/-- along a region: what the operations looked at that may change places with one that changes a block, and what is changed -/
def softGo (call : Cl) (soft : List Nat) : Nat → List AOper → St → Option (List Nat × List Nat)
  | _, [], _ => some ([], [])
  | i, o :: r, st => match evOne call st o with
    | some st' => match softGo call soft (i + 1) r st' with
      | some (rd, tg) => if o.op.isEff then match effTg st.sl o.op with
          | some ts => some (rd, ts ++ tg)
          | none => none
        else if hasN i soft then match o.guard, softRd st.sl o.op with
          | none, some rs => some (rs ++ rd, tg)
          | _, _ => none
        else some (rd, tg)
      | none => none
    | none => none
def softChk (call : Cl) (soft : List Nat) (ops : List AOper) (st : St) : Bool :=
  match softGo call soft 0 ops st with
  | some (rd, tg) => rd.all fun b => Nat.blt b st.bl.length && !hasN b tg
  | none => false

inductive AC where
  | skip
  | reg (ops : List AOper)
  | regd (soft : List Nat) (ops : List AOper)
  | seq (a b : AC)
  | cond (c : AO) (a b : AC)
  | block (id : Nat) (a : AC)
  | loop (keep : List Nat) (a : AC)
  | exit (id : Nat)
  | ret
  | stuck

inductive Out where
  | normal (st : St)
  | exit (id : Nat) (st : St)
  | ret (st : St)

def forget (keep : List Nat) : Nat → List PV → List PV
  | _, [] => []
  | i, p :: r => (if hasN i keep then p else .top) :: forget keep (i + 1) r

def blksLt (k : Nat) : Blks → Bool
  | [] => true
  | none :: r => blksLt k r
  | some x :: r => (x.flat || x.rows.all (PV.lt.ltL k)) && blksLt k r

/-- the first place from which on no block is needed -/
def trimT (sl : List PV) (bl : Blks) : Nat → Nat → Nat
  | 0, t => t
  | f + 1, t => if PV.lt.ltL t sl && blksLt t (bl.take t) then t else trimT sl bl f (t + 1)
def trimB (sl : List PV) (bl : Blks) (t : Nat) : St := if PV.lt.ltL t sl && blksLt t (bl.take t) then ⟨sl, bl.take t⟩ else ⟨sl, bl⟩
def norm (keep : List Nat) (n0 : Nat) (st : St) : St :=
  trimB (forget keep 0 st.sl) st.bl (trimT (forget keep 0 st.sl) st.bl (st.bl.length - n0) n0)

def evLoop (body : St → Option Out) (keep : List Nat) (n0 : Nat) : Nat → St → Option Out
  | 0, _ => none
  | n + 1, st => match body (norm keep n0 st) with
    | some (.normal st) => evLoop body keep n0 n st
    | r => r

def evCode (call : Cl) (n : Nat) : AC → St → Option Out
  | .skip, st => some (.normal st)
  | .reg ops, st => match evOps call ops st with
    | some st => some (.normal st)
    | none => none
  | .regd soft ops, st => match evOps call ops st with
    | some st' => if softChk call soft ops st = true then some (.normal st') else none
    | none => none
  | .seq a b, st => match evCode call n a st with
    | some (.normal st) => evCode call n b st
    | r => r
  | .cond c a b, st => match c.ev st.sl with
    | .bool t => if t then evCode call n a st else evCode call n b st
    | _ => none
  | .block id a, st => match evCode call n a st with
    | some (.exit id' st) => if id' = id then some (.normal st) else some (.exit id' st)
    | r => r
  | .loop keep a, st => evLoop (evCode call n a) keep st.bl.length n st
  | .exit id, st => some (.exit id st)
  | .ret, st => some (.ret st)
  | .stuck, _ => none

/-- where a result lies: in a slot, or in cells that a slot points to -/
inductive RV where
  | t (n : Nat)
  | c (a n : Nat) (agg : Bool)

/-- what may be given of a function -/
inductive XT where
  | p (x : List PV → Option PV)
  | s (x : List PV → Blks → Option (PV × Blks))

structure AFn where
  np : Nat
  nt : Nat
  res : List RV
  code : AC
  ext : Option XT

def loadP (bl : Blks) (n : Nat) (agg : Bool) : PV → Option PV
  | .ptr b ver r off => match getB bl b ver with
    | some x => match x.rows[r]? with
      | some row => if off + n ≤ row.length then scal agg ((row.drop off).take n) else none
      | none => none
    | none => none
  | .cptr cells => if n ≤ cells.length then scal agg (cells.take n) else none
  | _ => none

def RV.get (st : St) : RV → Option PV
  | .t n => some (st.sl.getD n .top)
  | .c a n agg => loadP st.bl n agg (st.sl.getD a .top)

def resO (st : St) : List RV → Option PV
  | [r] => r.get st
  | rs => match mapO (RV.get st) rs with
    | some ps => some (.tup ps)
    | none => none

def endP (res : List RV) : Option Out → Option PV
  | some (.normal st) => match resO st res with | some p => expoAll st.bl p | none => none
  | some (.ret st) => match resO st res with | some p => expoAll st.bl p | none => none
  | _ => none

/-- the end of a call upon the caller's blocks: what is new and not needed is left -/
def endT (n0 : Nat) (p : PV) (bl : Blks) : PV × Blks := (p, (norm [0] n0 ⟨[p], bl⟩).bl)
def endS (res : List RV) (n0 : Nat) : Option Out → Option (PV × Blks)
  | some (.normal st) => match resO st res with | some p => some (endT n0 p st.bl) | none => none
  | some (.ret st) => match resO st res with | some p => some (endT n0 p st.bl) | none => none
  | _ => none

def evF (D : Nat → Option AFn) : Nat → Cl
  | 0 => ⟨fun _ _ => none, fun _ _ _ => none⟩
  | n + 1 => ⟨fun f args => match D f with
      | some fc => match fc.ext with
        | some (.p x) => x args
        | some (.s _) => none
        | none => if args.length = fc.np then endP fc.res (evCode (evF D n) n fc.code ⟨args ++ List.replicate (fc.nt - fc.np) .top, []⟩) else none
      | none => none,
    fun f args bl => match D f with
      | some fc => match fc.ext with
        | some (.s x) => x args bl
        | some (.p _) => none
        | none => if args.length = fc.np then endS fc.res bl.length (evCode (evF D n) n fc.code ⟨args ++ List.replicate (fc.nt - fc.np) .top, bl⟩) else none
      | none => none⟩

end Go.Proofs.Ytlnaibkpmklkiaa
