/- The code of the functions, as it is read. -/
import Derived.Test.YtddlicbogbmpbaaEvLp
import Derived.Test.YtddlicbogbmpbaaProg
namespace Go.Proofs.Ytddlicbogbmpbaa
open Go
def c3b0 : AC := (.seq
        (.seq
         (.reg [⟨some 21, none, .mov (.t 7)⟩,
          ⟨some 22, none, .mov (.t 1)⟩,
          ⟨some 23, none, .len (.t 22)⟩,
          ⟨some 24, none, .bin .lss (.t 21) (.t 23)⟩])
         (.cond (.t 24)
          .skip
          (.exit 0)))
        (.seq
         (.block 1
          (.seq
           (.reg [⟨some 27, none, .mov (.t 1)⟩,
            ⟨some 28, none, .mov (.t 7)⟩,
            ⟨some 29, none, .iaddr (.slice 1) (.t 27) (.t 28)⟩,
            ⟨some 30, none, .load 1 false (.t 29)⟩,
            ⟨some 31, none, .call false 10 [(.t 30)]⟩,
            ⟨some 32, none, .mov (.t 1)⟩,
            ⟨some 33, none, .mov (.t 7)⟩,
            ⟨some 34, none, .iaddr (.slice 1) (.t 32) (.t 33)⟩,
            ⟨some 35, none, .load 1 false (.t 34)⟩,
            ⟨some 36, none, .call false 11 [(.t 35)]⟩,
            ⟨some 37, none, .bin .neq (.t 31) (.t 36)⟩])
           (.cond (.t 37)
            (.seq
             (.reg [⟨some 6, none, .mov (.c (.bool false))⟩])
             .ret)
            .skip)))
         (.reg [⟨some 25, none, .mov (.t 7)⟩,
          ⟨some 26, none, .bin .add (.t 25) (.c (.int .i64 1))⟩,
          ⟨some 7, none, .mov (.t 26)⟩])))
def c3r0 : AC := (.seq
     (.reg [⟨some 39, none, .faddr 0 (.t 3)⟩,
      ⟨some 40, none, .load 1 false (.t 39)⟩,
      ⟨some 41, none, .faddr 1 (.t 3)⟩,
      ⟨some 42, none, .load 1 false (.t 41)⟩,
      ⟨some 43, none, .mov (.t 2)⟩,
      ⟨some 44, none, .call false 12 [(.t 40), (.t 42), (.t 43)]⟩,
      ⟨some 38, none, .mov (.t 44)⟩,
      ⟨some 45, none, .ext (.t 38) 0⟩,
      ⟨some 46, none, .ext (.t 38) 1⟩,
      ⟨some 8, none, .mov (.t 45)⟩,
      ⟨some 9, none, .mov (.t 46)⟩])
     (.seq
      (.reg [⟨some 48, none, .faddr 0 (.t 3)⟩,
       ⟨some 49, none, .load 1 false (.t 48)⟩,
       ⟨some 50, none, .faddr 1 (.t 3)⟩,
       ⟨some 51, none, .load 1 false (.t 50)⟩,
       ⟨some 52, none, .mov (.t 2)⟩,
       ⟨some 53, none, .call false 13 [(.t 49), (.t 51), (.t 52)]⟩,
       ⟨some 47, none, .mov (.t 53)⟩,
       ⟨some 54, none, .ext (.t 47) 0⟩,
       ⟨some 55, none, .ext (.t 47) 1⟩,
       ⟨some 10, none, .mov (.t 54)⟩,
       ⟨some 11, none, .mov (.t 55)⟩])
      (.seq
       (.reg [⟨some 56, none, .mov (.t 1)⟩,
        ⟨some 57, none, .call false 14 [(.t 56)]⟩,
        ⟨some 58, none, .mov (.t 1)⟩,
        ⟨some 59, none, .call false 15 [(.t 58)]⟩,
        ⟨some 60, none, .bin .eql (.t 57) (.t 59)⟩,
        ⟨some 61, none, .mov (.t 60)⟩,
        ⟨some 62, some (61, true), .faddr 0 (.t 3)⟩,
        ⟨some 63, some (61, true), .load 1 false (.t 62)⟩,
        ⟨some 64, some (61, true), .faddr 1 (.t 3)⟩,
        ⟨some 65, some (61, true), .load 1 false (.t 64)⟩,
        ⟨some 66, some (61, true), .call false 16 [(.t 63), (.t 65)]⟩,
        ⟨some 67, some (61, true), .faddr 0 (.t 3)⟩,
        ⟨some 68, some (61, true), .load 1 false (.t 67)⟩,
        ⟨some 69, some (61, true), .faddr 1 (.t 3)⟩,
        ⟨some 70, some (61, true), .load 1 false (.t 69)⟩,
        ⟨some 71, some (61, true), .call false 17 [(.t 68), (.t 70)]⟩,
        ⟨some 72, some (61, true), .bin .eql (.t 66) (.t 71)⟩,
        ⟨some 73, none, .pick (.t 61) (.t 72) (.c (.bool false))⟩,
        ⟨some 74, none, .mov (.t 73)⟩,
        ⟨some 75, some (74, true), .mov (.t 8)⟩,
        ⟨some 76, some (74, true), .mov (.t 10)⟩,
        ⟨some 77, some (74, true), .call false 18 [(.t 75), (.t 76)]⟩,
        ⟨some 78, none, .pick (.t 74) (.t 77) (.c (.bool false))⟩,
        ⟨some 79, none, .mov (.t 78)⟩,
        ⟨some 80, some (79, true), .mov (.t 9)⟩,
        ⟨some 81, some (79, true), .mov (.t 11)⟩,
        ⟨some 82, some (79, true), .bin .eql (.t 80) (.t 81)⟩,
        ⟨some 83, none, .pick (.t 79) (.t 82) (.c (.bool false))⟩,
        ⟨some 84, none, .mov (.t 83)⟩,
        ⟨some 85, some (84, true), .call false 9 []⟩,
        ⟨some 86, none, .pick (.t 84) (.t 85) (.c (.bool false))⟩,
        ⟨some 6, none, .mov (.t 86)⟩])
       .ret)))
/-- tracebook/tracebooklaw06.InternChecks -/
def c3 : AFn := ⟨3, 87, [.t 6],
 (.seq
  (.reg [⟨some 3, none, .box (.t 0)⟩,
   ⟨some 6, none, .mov (.c (.bool false))⟩])
  (.seq
   (.seq
    (.reg [⟨some 12, none, .load 2 true (.t 3)⟩,
     ⟨some 13, none, .call false 8 [(.t 12)]⟩,
     ⟨some 14, none, .un .not (.t 13)⟩,
     ⟨some 15, none, .mov (.t 14)⟩,
     ⟨some 16, some (15, false), .mov (.t 1)⟩,
     ⟨some 17, some (15, false), .len (.t 16)⟩,
     ⟨some 18, some (15, false), .bin .gtr (.t 17) (.c (.int .i64 100))⟩,
     ⟨some 19, none, .pick (.t 15) (.c (.bool true)) (.t 18)⟩])
    (.cond (.t 19)
     (.seq
      (.reg [⟨some 20, none, .call false 9 []⟩,
       ⟨some 6, none, .mov (.t 20)⟩])
      .ret)
     .skip))
   (.seq
    (.seq
     (.reg [⟨some 7, none, .mov (.c (.int .i64 0))⟩])
     (.block 0
      (.loop [1, 2, 3, 7]
       c3b0)))
    c3r0))), none⟩
def k3 : List (List Nat) := [[1, 2, 3, 7]]
def o3 : List Nat := [1000027]
/-- tracebook/tracebooklaw06.InternPuts -/
def c4 : AFn := ⟨3, 99, [.t 6],
 (.seq
  (.reg [⟨some 3, none, .box (.t 0)⟩,
   ⟨some 6, none, .mov (.c (.bool false))⟩])
  (.seq
   (.seq
    (.reg [⟨some 17, none, .load 2 true (.t 3)⟩,
     ⟨some 18, none, .call false 8 [(.t 17)]⟩,
     ⟨some 19, none, .un .not (.t 18)⟩,
     ⟨some 20, none, .mov (.t 19)⟩,
     ⟨some 21, some (20, false), .mov (.t 2)⟩,
     ⟨some 22, some (20, false), .len (.t 21)⟩,
     ⟨some 23, some (20, false), .bin .gtr (.t 22) (.c (.int .i64 100))⟩,
     ⟨some 24, none, .pick (.t 20) (.c (.bool true)) (.t 23)⟩])
    (.cond (.t 24)
     (.seq
      (.reg [⟨some 25, none, .call false 9 []⟩,
       ⟨some 6, none, .mov (.t 25)⟩])
      .ret)
     .skip))
   (.seq
    (.reg [⟨some 27, none, .faddr 0 (.t 3)⟩,
     ⟨some 28, none, .load 1 false (.t 27)⟩,
     ⟨some 29, none, .mov (.t 1)⟩,
     ⟨some 30, none, .call false 19 [(.t 28), (.t 29)]⟩,
     ⟨some 26, none, .mov (.t 30)⟩,
     ⟨some 31, none, .ext (.t 26) 0⟩,
     ⟨some 32, none, .ext (.t 26) 1⟩,
     ⟨some 33, none, .ext (.t 26) 2⟩,
     ⟨some 7, none, .mov (.t 31)⟩,
     ⟨some 8, none, .mov (.t 32)⟩,
     ⟨some 9, none, .mov (.t 33)⟩])
    (.seq
     (.reg [⟨some 35, none, .faddr 0 (.t 3)⟩,
      ⟨some 36, none, .load 1 false (.t 35)⟩,
      ⟨some 37, none, .mov (.t 1)⟩,
      ⟨some 38, none, .call false 20 [(.t 36), (.t 37)]⟩,
      ⟨some 34, none, .mov (.t 38)⟩,
      ⟨some 39, none, .ext (.t 34) 0⟩,
      ⟨some 40, none, .ext (.t 34) 1⟩,
      ⟨some 41, none, .ext (.t 34) 2⟩,
      ⟨some 10, none, .mov (.t 39)⟩,
      ⟨some 11, none, .mov (.t 40)⟩,
      ⟨some 12, none, .mov (.t 41)⟩])
     (.seq
      (.seq
       (.reg [⟨some 42, none, .mov (.t 7)⟩,
        ⟨some 43, none, .mov (.t 10)⟩,
        ⟨some 44, none, .bin .neq (.t 42) (.t 43)⟩,
        ⟨some 45, none, .mov (.t 44)⟩,
        ⟨some 46, some (45, false), .mov (.t 9)⟩,
        ⟨some 47, some (45, false), .mov (.t 12)⟩,
        ⟨some 48, some (45, false), .bin .neq (.t 46) (.t 47)⟩,
        ⟨some 49, none, .pick (.t 45) (.c (.bool true)) (.t 48)⟩,
        ⟨some 50, none, .mov (.t 49)⟩,
        ⟨some 51, some (50, false), .mov (.t 8)⟩,
        ⟨some 52, some (50, false), .mov (.t 11)⟩,
        ⟨some 53, some (50, false), .call false 18 [(.t 51), (.t 52)]⟩,
        ⟨some 54, some (50, false), .un .not (.t 53)⟩,
        ⟨some 55, none, .pick (.t 50) (.c (.bool true)) (.t 54)⟩])
       (.cond (.t 55)
        (.seq
         (.reg [⟨some 6, none, .mov (.c (.bool false))⟩])
         .ret)
        .skip))
      (.seq
       (.reg [⟨some 57, none, .faddr 0 (.t 3)⟩,
        ⟨some 58, none, .load 1 false (.t 57)⟩,
        ⟨some 59, none, .faddr 1 (.t 3)⟩,
        ⟨some 60, none, .load 1 false (.t 59)⟩,
        ⟨some 61, none, .mov (.t 2)⟩,
        ⟨some 62, none, .call false 21 [(.t 58), (.t 60), (.t 61)]⟩,
        ⟨some 56, none, .mov (.t 62)⟩,
        ⟨some 63, none, .ext (.t 56) 0⟩,
        ⟨some 64, none, .ext (.t 56) 1⟩,
        ⟨some 65, none, .ext (.t 56) 2⟩,
        ⟨some 66, none, .ext (.t 56) 3⟩,
        ⟨some 13, none, .mov (.t 63)⟩,
        ⟨some 8, none, .mov (.t 64)⟩,
        ⟨some 14, none, .mov (.t 65)⟩,
        ⟨some 9, none, .mov (.t 66)⟩])
       (.seq
        (.reg [⟨some 68, none, .faddr 0 (.t 3)⟩,
         ⟨some 69, none, .load 1 false (.t 68)⟩,
         ⟨some 70, none, .faddr 1 (.t 3)⟩,
         ⟨some 71, none, .load 1 false (.t 70)⟩,
         ⟨some 72, none, .mov (.t 2)⟩,
         ⟨some 73, none, .call false 22 [(.t 69), (.t 71), (.t 72)]⟩,
         ⟨some 67, none, .mov (.t 73)⟩,
         ⟨some 74, none, .ext (.t 67) 0⟩,
         ⟨some 75, none, .ext (.t 67) 1⟩,
         ⟨some 76, none, .ext (.t 67) 2⟩,
         ⟨some 77, none, .ext (.t 67) 3⟩,
         ⟨some 15, none, .mov (.t 74)⟩,
         ⟨some 11, none, .mov (.t 75)⟩,
         ⟨some 16, none, .mov (.t 76)⟩,
         ⟨some 12, none, .mov (.t 77)⟩])
        (.seq
         (.reg [⟨some 78, none, .mov (.t 13)⟩,
          ⟨some 79, none, .mov (.t 15)⟩,
          ⟨some 80, none, .bin .eql (.t 78) (.t 79)⟩,
          ⟨some 81, none, .mov (.t 80)⟩,
          ⟨some 82, some (81, true), .mov (.t 9)⟩,
          ⟨some 83, some (81, true), .mov (.t 12)⟩,
          ⟨some 84, some (81, true), .bin .eql (.t 82) (.t 83)⟩,
          ⟨some 85, none, .pick (.t 81) (.t 84) (.c (.bool false))⟩,
          ⟨some 86, none, .mov (.t 85)⟩,
          ⟨some 87, some (86, true), .mov (.t 8)⟩,
          ⟨some 88, some (86, true), .mov (.t 11)⟩,
          ⟨some 89, some (86, true), .call false 18 [(.t 87), (.t 88)]⟩,
          ⟨some 90, none, .pick (.t 86) (.t 89) (.c (.bool false))⟩,
          ⟨some 91, none, .mov (.t 90)⟩,
          ⟨some 92, some (91, true), .mov (.t 14)⟩,
          ⟨some 93, some (91, true), .mov (.t 16)⟩,
          ⟨some 94, some (91, true), .call false 23 [(.t 92), (.t 93)]⟩,
          ⟨some 95, none, .pick (.t 91) (.t 94) (.c (.bool false))⟩,
          ⟨some 96, none, .mov (.t 95)⟩,
          ⟨some 97, some (96, true), .call false 9 []⟩,
          ⟨some 98, none, .pick (.t 96) (.t 97) (.c (.bool false))⟩,
          ⟨some 6, none, .mov (.t 98)⟩])
         .ret)))))))), none⟩
def k4 : List (List Nat) := []
def o4 : List Nat := [1000027]
/-- tracebook/tracebooklaw06.InternBack -/
def c5 : AFn := ⟨2, 121, [.t 4],
 (.seq
  (.reg [⟨some 2, none, .box (.t 0)⟩,
   ⟨some 4, none, .mov (.c (.bool false))⟩])
  (.seq
   (.seq
    (.reg [⟨some 11, none, .load 2 true (.t 2)⟩,
     ⟨some 12, none, .call false 8 [(.t 11)]⟩,
     ⟨some 13, none, .un .not (.t 12)⟩,
     ⟨some 14, none, .mov (.t 13)⟩,
     ⟨some 15, some (14, false), .mov (.t 1)⟩,
     ⟨some 16, some (14, false), .len (.t 15)⟩,
     ⟨some 17, some (14, false), .bin .gtr (.t 16) (.c (.int .i64 100))⟩,
     ⟨some 18, none, .pick (.t 14) (.c (.bool true)) (.t 17)⟩,
     ⟨some 19, none, .mov (.t 18)⟩,
     ⟨some 20, some (19, false), .faddr 0 (.t 2)⟩,
     ⟨some 21, some (19, false), .load 1 false (.t 20)⟩,
     ⟨some 22, some (19, false), .faddr 1 (.t 2)⟩,
     ⟨some 23, some (19, false), .load 1 false (.t 22)⟩,
     ⟨some 24, some (19, false), .call false 16 [(.t 21), (.t 23)]⟩,
     ⟨some 25, some (19, false), .bin .neq (.t 24) (.c (.int .i64 0))⟩,
     ⟨some 26, none, .pick (.t 19) (.c (.bool true)) (.t 25)⟩])
    (.cond (.t 26)
     (.seq
      (.reg [⟨some 27, none, .call false 9 []⟩,
       ⟨some 4, none, .mov (.t 27)⟩])
      .ret)
     .skip))
   (.seq
    (.reg [⟨some 29, none, .faddr 0 (.t 2)⟩,
     ⟨some 30, none, .load 1 false (.t 29)⟩,
     ⟨some 31, none, .faddr 1 (.t 2)⟩,
     ⟨some 32, none, .load 1 false (.t 31)⟩,
     ⟨some 33, none, .mov (.t 1)⟩,
     ⟨some 34, none, .call false 21 [(.t 30), (.t 32), (.t 33)]⟩,
     ⟨some 28, none, .mov (.t 34)⟩,
     ⟨some 35, none, .ext (.t 28) 0⟩,
     ⟨some 36, none, .ext (.t 28) 1⟩,
     ⟨some 37, none, .ext (.t 28) 2⟩,
     ⟨some 38, none, .ext (.t 28) 3⟩,
     ⟨some 5, none, .mov (.t 35)⟩,
     ⟨some 6, none, .mov (.t 36)⟩,
     ⟨some 7, none, .mov (.t 37)⟩,
     ⟨some 8, none, .mov (.t 38)⟩])
    (.seq
     (.seq
      (.reg [⟨some 39, none, .mov (.t 6)⟩,
       ⟨some 40, none, .len (.t 39)⟩,
       ⟨some 41, none, .faddr 0 (.t 2)⟩,
       ⟨some 42, none, .load 1 false (.t 41)⟩,
       ⟨some 43, none, .len (.t 42)⟩,
       ⟨some 44, none, .bin .lss (.t 40) (.t 43)⟩,
       ⟨some 45, none, .mov (.t 44)⟩,
       ⟨some 46, some (45, false), .mov (.t 7)⟩,
       ⟨some 47, some (45, false), .len (.t 46)⟩,
       ⟨some 48, some (45, false), .faddr 1 (.t 2)⟩,
       ⟨some 49, some (45, false), .load 1 false (.t 48)⟩,
       ⟨some 50, some (45, false), .len (.t 49)⟩,
       ⟨some 51, some (45, false), .bin .lss (.t 47) (.t 50)⟩,
       ⟨some 52, none, .pick (.t 45) (.c (.bool true)) (.t 51)⟩,
       ⟨some 53, none, .mov (.t 52)⟩,
       ⟨some 54, some (53, false), .mov (.t 6)⟩,
       ⟨some 55, some (53, false), .faddr 0 (.t 2)⟩,
       ⟨some 56, some (53, false), .load 1 false (.t 55)⟩,
       ⟨some 57, some (53, false), .len (.t 56)⟩,
       ⟨some 58, some (53, false), .slc (.slice 1) (.t 54) none (some (.t 57)) none⟩,
       ⟨some 59, some (53, false), .faddr 0 (.t 2)⟩,
       ⟨some 60, some (53, false), .load 1 false (.t 59)⟩,
       ⟨some 61, some (53, false), .call false 18 [(.t 58), (.t 60)]⟩,
       ⟨some 62, some (53, false), .un .not (.t 61)⟩,
       ⟨some 63, none, .pick (.t 53) (.c (.bool true)) (.t 62)⟩,
       ⟨some 64, none, .mov (.t 63)⟩,
       ⟨some 65, some (64, false), .mov (.t 7)⟩,
       ⟨some 66, some (64, false), .faddr 1 (.t 2)⟩,
       ⟨some 67, some (64, false), .load 1 false (.t 66)⟩,
       ⟨some 68, some (64, false), .len (.t 67)⟩,
       ⟨some 69, some (64, false), .slc (.slice 2) (.t 65) none (some (.t 68)) none⟩,
       ⟨some 70, some (64, false), .faddr 1 (.t 2)⟩,
       ⟨some 71, some (64, false), .load 1 false (.t 70)⟩,
       ⟨some 72, some (64, false), .call false 23 [(.t 69), (.t 71)]⟩,
       ⟨some 73, some (64, false), .un .not (.t 72)⟩,
       ⟨some 74, none, .pick (.t 64) (.c (.bool true)) (.t 73)⟩,
       ⟨some 75, none, .mov (.t 74)⟩,
       ⟨some 76, some (75, false), .mov (.t 6)⟩,
       ⟨some 77, some (75, false), .mov (.t 7)⟩,
       ⟨some 78, some (75, false), .call false 16 [(.t 76), (.t 77)]⟩,
       ⟨some 79, some (75, false), .bin .neq (.t 78) (.c (.int .i64 0))⟩,
       ⟨some 80, none, .pick (.t 75) (.c (.bool true)) (.t 79)⟩])
      (.cond (.t 80)
       (.seq
        (.reg [⟨some 4, none, .mov (.c (.bool false))⟩])
        .ret)
       .skip))
     (.seq
      (.seq
       (.reg [⟨some 81, none, .mov (.t 8)⟩,
        ⟨some 82, none, .bin .neq (.t 81) (.c (.int .i64 0))⟩])
       (.cond (.t 82)
        (.seq
         (.reg [⟨some 83, none, .mov (.t 5)⟩,
          ⟨some 84, none, .bin .eql (.t 83) (.c (.int .i64 0))⟩,
          ⟨some 85, none, .mov (.t 84)⟩,
          ⟨some 86, some (85, true), .mov (.t 6)⟩,
          ⟨some 87, some (85, true), .len (.t 86)⟩,
          ⟨some 88, some (85, true), .faddr 0 (.t 2)⟩,
          ⟨some 89, some (85, true), .load 1 false (.t 88)⟩,
          ⟨some 90, some (85, true), .len (.t 89)⟩,
          ⟨some 91, some (85, true), .bin .eql (.t 87) (.t 90)⟩,
          ⟨some 92, none, .pick (.t 85) (.t 91) (.c (.bool false))⟩,
          ⟨some 93, none, .mov (.t 92)⟩,
          ⟨some 94, some (93, true), .mov (.t 7)⟩,
          ⟨some 95, some (93, true), .len (.t 94)⟩,
          ⟨some 96, some (93, true), .faddr 1 (.t 2)⟩,
          ⟨some 97, some (93, true), .load 1 false (.t 96)⟩,
          ⟨some 98, some (93, true), .len (.t 97)⟩,
          ⟨some 99, some (93, true), .bin .eql (.t 95) (.t 98)⟩,
          ⟨some 100, none, .pick (.t 93) (.t 99) (.c (.bool false))⟩,
          ⟨some 101, none, .mov (.t 100)⟩,
          ⟨some 102, some (101, true), .call false 9 []⟩,
          ⟨some 103, none, .pick (.t 101) (.t 102) (.c (.bool false))⟩,
          ⟨some 4, none, .mov (.t 103)⟩])
         .ret)
        .skip))
      (.seq
       (.reg [⟨some 105, none, .mov (.t 6)⟩,
        ⟨some 106, none, .mov (.t 7)⟩,
        ⟨some 107, none, .mov (.t 5)⟩,
        ⟨some 108, none, .call false 12 [(.t 105), (.t 106), (.t 107)]⟩,
        ⟨some 104, none, .mov (.t 108)⟩,
        ⟨some 109, none, .ext (.t 104) 0⟩,
        ⟨some 110, none, .ext (.t 104) 1⟩,
        ⟨some 9, none, .mov (.t 109)⟩,
        ⟨some 10, none, .mov (.t 110)⟩])
       (.seq
        (.reg [⟨some 111, none, .mov (.t 10)⟩,
         ⟨some 112, none, .bin .eql (.t 111) (.c (.int .i64 0))⟩,
         ⟨some 113, none, .mov (.t 112)⟩,
         ⟨some 114, some (113, true), .mov (.t 9)⟩,
         ⟨some 115, some (113, true), .mov (.t 1)⟩,
         ⟨some 116, some (113, true), .call false 18 [(.t 114), (.t 115)]⟩,
         ⟨some 117, none, .pick (.t 113) (.t 116) (.c (.bool false))⟩,
         ⟨some 118, none, .mov (.t 117)⟩,
         ⟨some 119, some (118, true), .call false 9 []⟩,
         ⟨some 120, none, .pick (.t 118) (.t 119) (.c (.bool false))⟩,
         ⟨some 4, none, .mov (.t 120)⟩])
        .ret))))))), none⟩
def k5 : List (List Nat) := []
def o5 : List Nat := [1000027]
def c6b0 : AC := (.seq
             (.seq
              (.reg [⟨some 109, none, .mov (.t 17)⟩,
               ⟨some 110, none, .mov (.t 1)⟩,
               ⟨some 111, none, .len (.t 110)⟩,
               ⟨some 112, none, .bin .lss (.t 109) (.t 111)⟩])
              (.cond (.t 112)
               .skip
               (.exit 0)))
             (.seq
              (.block 1
               (.seq
                (.reg [⟨some 116, none, .mov (.t 8)⟩,
                 ⟨some 117, none, .mov (.t 1)⟩,
                 ⟨some 118, none, .mov (.t 17)⟩,
                 ⟨some 119, none, .iaddr (.slice 1) (.t 117) (.t 118)⟩,
                 ⟨some 120, none, .load 1 false (.t 119)⟩,
                 ⟨some 121, none, .call false 19 [(.t 116), (.t 120)]⟩,
                 ⟨some 115, none, .mov (.t 121)⟩,
                 ⟨some 122, none, .ext (.t 115) 0⟩,
                 ⟨some 123, none, .ext (.t 115) 1⟩,
                 ⟨some 124, none, .ext (.t 115) 2⟩,
                 ⟨some 18, none, .mov (.t 122)⟩,
                 ⟨some 19, none, .mov (.t 123)⟩,
                 ⟨some 20, none, .mov (.t 124)⟩])
                (.seq
                 (.reg [⟨some 125, none, .mov (.t 20)⟩,
                  ⟨some 126, none, .bin .neq (.t 125) (.c (.int .i64 0))⟩,
                  ⟨some 127, none, .mov (.t 126)⟩,
                  ⟨some 128, some (127, false), .mov (.t 19)⟩,
                  ⟨some 129, some (127, false), .len (.t 128)⟩,
                  ⟨some 130, some (127, false), .mov (.t 8)⟩,
                  ⟨some 131, some (127, false), .len (.t 130)⟩,
                  ⟨some 132, some (127, false), .bin .neq (.t 129) (.t 131)⟩,
                  ⟨some 133, none, .pick (.t 127) (.c (.bool true)) (.t 132)⟩,
                  ⟨some 134, none, .mov (.t 133)⟩,
                  ⟨some 135, some (134, false), .mov (.t 18)⟩,
                  ⟨some 136, some (134, false), .bin .lss (.t 135) (.c (.int .i64 0))⟩,
                  ⟨some 137, none, .pick (.t 134) (.c (.bool true)) (.t 136)⟩,
                  ⟨some 138, none, .mov (.t 137)⟩,
                  ⟨some 139, some (138, false), .mov (.t 18)⟩,
                  ⟨some 140, some (138, false), .mov (.t 8)⟩,
                  ⟨some 141, some (138, false), .len (.t 140)⟩,
                  ⟨some 142, some (138, false), .bin .geq (.t 139) (.t 141)⟩,
                  ⟨some 143, none, .pick (.t 138) (.c (.bool true)) (.t 142)⟩,
                  ⟨some 144, none, .mov (.t 143)⟩,
                  ⟨some 145, some (144, false), .mov (.t 8)⟩,
                  ⟨some 146, some (144, false), .mov (.t 18)⟩,
                  ⟨some 147, some (144, false), .iaddr (.slice 1) (.t 145) (.t 146)⟩,
                  ⟨some 148, some (144, false), .load 1 false (.t 147)⟩,
                  ⟨some 149, some (144, false), .mov (.t 1)⟩,
                  ⟨some 150, some (144, false), .mov (.t 17)⟩,
                  ⟨some 151, some (144, false), .iaddr (.slice 1) (.t 149) (.t 150)⟩,
                  ⟨some 152, some (144, false), .load 1 false (.t 151)⟩,
                  ⟨some 153, some (144, false), .bin .neq (.t 148) (.t 152)⟩,
                  ⟨some 154, none, .pick (.t 144) (.c (.bool true)) (.t 153)⟩])
                 (.cond (.t 154)
                  (.seq
                   (.reg [⟨some 6, none, .mov (.c (.bool false))⟩])
                   .ret)
                  .skip))))
              (.reg [⟨some 113, none, .mov (.t 17)⟩,
               ⟨some 114, none, .bin .add (.t 113) (.c (.int .i64 1))⟩,
               ⟨some 17, none, .mov (.t 114)⟩])))
def c6r0 : AC := (.seq
          (.reg [⟨some 155, none, .call false 9 []⟩,
           ⟨some 6, none, .mov (.t 155)⟩])
          .ret)
/-- tracebook/tracebooklaw06.InternAgain -/
def c6 : AFn := ⟨3, 156, [.t 6],
 (.seq
  (.reg [⟨some 3, none, .box (.t 0)⟩,
   ⟨some 6, none, .mov (.c (.bool false))⟩])
  (.seq
   (.seq
    (.reg [⟨some 21, none, .load 2 true (.t 3)⟩,
     ⟨some 22, none, .call false 8 [(.t 21)]⟩,
     ⟨some 23, none, .un .not (.t 22)⟩,
     ⟨some 24, none, .mov (.t 23)⟩,
     ⟨some 25, some (24, false), .mov (.t 1)⟩,
     ⟨some 26, some (24, false), .len (.t 25)⟩,
     ⟨some 27, some (24, false), .bin .gtr (.t 26) (.c (.int .i64 100))⟩,
     ⟨some 28, none, .pick (.t 24) (.c (.bool true)) (.t 27)⟩,
     ⟨some 29, none, .mov (.t 28)⟩,
     ⟨some 30, some (29, false), .mov (.t 2)⟩,
     ⟨some 31, some (29, false), .len (.t 30)⟩,
     ⟨some 32, some (29, false), .bin .gtr (.t 31) (.c (.int .i64 100))⟩,
     ⟨some 33, none, .pick (.t 29) (.c (.bool true)) (.t 32)⟩,
     ⟨some 34, none, .mov (.t 33)⟩,
     ⟨some 35, some (34, false), .faddr 0 (.t 3)⟩,
     ⟨some 36, some (34, false), .load 1 false (.t 35)⟩,
     ⟨some 37, some (34, false), .faddr 1 (.t 3)⟩,
     ⟨some 38, some (34, false), .load 1 false (.t 37)⟩,
     ⟨some 39, some (34, false), .call false 16 [(.t 36), (.t 38)]⟩,
     ⟨some 40, some (34, false), .bin .neq (.t 39) (.c (.int .i64 0))⟩,
     ⟨some 41, none, .pick (.t 34) (.c (.bool true)) (.t 40)⟩])
    (.cond (.t 41)
     (.seq
      (.reg [⟨some 42, none, .call false 9 []⟩,
       ⟨some 6, none, .mov (.t 42)⟩])
      .ret)
     .skip))
   (.seq
    (.reg [⟨some 44, none, .faddr 0 (.t 3)⟩,
     ⟨some 45, none, .load 1 false (.t 44)⟩,
     ⟨some 46, none, .faddr 1 (.t 3)⟩,
     ⟨some 47, none, .load 1 false (.t 46)⟩,
     ⟨some 48, none, .mov (.t 1)⟩,
     ⟨some 49, none, .call false 21 [(.t 45), (.t 47), (.t 48)]⟩,
     ⟨some 43, none, .mov (.t 49)⟩,
     ⟨some 50, none, .ext (.t 43) 0⟩,
     ⟨some 51, none, .ext (.t 43) 1⟩,
     ⟨some 52, none, .ext (.t 43) 2⟩,
     ⟨some 53, none, .ext (.t 43) 3⟩,
     ⟨some 7, none, .mov (.t 50)⟩,
     ⟨some 8, none, .mov (.t 51)⟩,
     ⟨some 9, none, .mov (.t 52)⟩,
     ⟨some 10, none, .mov (.t 53)⟩])
    (.seq
     (.reg [⟨some 55, none, .mov (.t 8)⟩,
      ⟨some 56, none, .mov (.t 9)⟩,
      ⟨some 57, none, .mov (.t 2)⟩,
      ⟨some 58, none, .call false 21 [(.t 55), (.t 56), (.t 57)]⟩,
      ⟨some 54, none, .mov (.t 58)⟩,
      ⟨some 59, none, .ext (.t 54) 0⟩,
      ⟨some 60, none, .ext (.t 54) 1⟩,
      ⟨some 61, none, .ext (.t 54) 2⟩,
      ⟨some 62, none, .ext (.t 54) 3⟩,
      ⟨some 11, none, .mov (.t 59)⟩,
      ⟨some 8, none, .mov (.t 60)⟩,
      ⟨some 9, none, .mov (.t 61)⟩,
      ⟨some 12, none, .mov (.t 62)⟩])
     (.seq
      (.seq
       (.reg [⟨some 63, none, .mov (.t 10)⟩,
        ⟨some 64, none, .bin .neq (.t 63) (.c (.int .i64 0))⟩,
        ⟨some 65, none, .mov (.t 64)⟩,
        ⟨some 66, some (65, false), .mov (.t 12)⟩,
        ⟨some 67, some (65, false), .bin .neq (.t 66) (.c (.int .i64 0))⟩,
        ⟨some 68, none, .pick (.t 65) (.c (.bool true)) (.t 67)⟩])
       (.cond (.t 68)
        (.seq
         (.reg [⟨some 69, none, .call false 9 []⟩,
          ⟨some 6, none, .mov (.t 69)⟩])
         .ret)
        .skip))
      (.seq
       (.reg [⟨some 71, none, .mov (.t 8)⟩,
        ⟨some 72, none, .mov (.t 9)⟩,
        ⟨some 73, none, .mov (.t 1)⟩,
        ⟨some 74, none, .call false 21 [(.t 71), (.t 72), (.t 73)]⟩,
        ⟨some 70, none, .mov (.t 74)⟩,
        ⟨some 75, none, .ext (.t 70) 0⟩,
        ⟨some 76, none, .ext (.t 70) 1⟩,
        ⟨some 77, none, .ext (.t 70) 2⟩,
        ⟨some 78, none, .ext (.t 70) 3⟩,
        ⟨some 13, none, .mov (.t 75)⟩,
        ⟨some 14, none, .mov (.t 76)⟩,
        ⟨some 15, none, .mov (.t 77)⟩,
        ⟨some 16, none, .mov (.t 78)⟩])
       (.seq
        (.seq
         (.reg [⟨some 79, none, .mov (.t 13)⟩,
          ⟨some 80, none, .mov (.t 7)⟩,
          ⟨some 81, none, .bin .neq (.t 79) (.t 80)⟩,
          ⟨some 82, none, .mov (.t 81)⟩,
          ⟨some 83, some (82, false), .mov (.t 16)⟩,
          ⟨some 84, some (82, false), .bin .neq (.t 83) (.c (.int .i64 0))⟩,
          ⟨some 85, none, .pick (.t 82) (.c (.bool true)) (.t 84)⟩,
          ⟨some 86, none, .mov (.t 85)⟩,
          ⟨some 87, some (86, false), .mov (.t 14)⟩,
          ⟨some 88, some (86, false), .len (.t 87)⟩,
          ⟨some 89, some (86, false), .mov (.t 8)⟩,
          ⟨some 90, some (86, false), .len (.t 89)⟩,
          ⟨some 91, some (86, false), .bin .neq (.t 88) (.t 90)⟩,
          ⟨some 92, none, .pick (.t 86) (.c (.bool true)) (.t 91)⟩,
          ⟨some 93, none, .mov (.t 92)⟩,
          ⟨some 94, some (93, false), .mov (.t 15)⟩,
          ⟨some 95, some (93, false), .len (.t 94)⟩,
          ⟨some 96, some (93, false), .mov (.t 9)⟩,
          ⟨some 97, some (93, false), .len (.t 96)⟩,
          ⟨some 98, some (93, false), .bin .neq (.t 95) (.t 97)⟩,
          ⟨some 99, none, .pick (.t 93) (.c (.bool true)) (.t 98)⟩,
          ⟨some 100, none, .mov (.t 99)⟩,
          ⟨some 101, some (100, false), .mov (.t 7)⟩,
          ⟨some 102, some (100, false), .mov (.t 11)⟩,
          ⟨some 103, some (100, false), .bin .eql (.t 101) (.t 102)⟩,
          ⟨some 104, some (100, false), .mov (.t 1)⟩,
          ⟨some 105, some (100, false), .mov (.t 2)⟩,
          ⟨some 106, some (100, false), .call false 18 [(.t 104), (.t 105)]⟩,
          ⟨some 107, some (100, false), .beq true (.t 103) (.t 106)⟩,
          ⟨some 108, none, .pick (.t 100) (.c (.bool true)) (.t 107)⟩])
         (.cond (.t 108)
          (.seq
           (.reg [⟨some 6, none, .mov (.c (.bool false))⟩])
           .ret)
          .skip))
        (.seq
         (.seq
          (.reg [⟨some 17, none, .mov (.c (.int .i64 0))⟩])
          (.block 0
           (.loop [1, 8, 17]
            c6b0)))
         c6r0)))))))), none⟩
def k6 : List (List Nat) := [[1, 8, 17]]
def o6 : List Nat := [1000027]
def c7b0 : AC := (.seq
          (.seq
           (.reg [⟨some 20, none, .mov (.t 6)⟩,
            ⟨some 21, none, .mov (.t 3)⟩,
            ⟨some 22, none, .bin .lss (.t 20) (.t 21)⟩])
           (.cond (.t 22)
            .skip
            (.exit 0)))
          (.seq
           (.block 1
            (.seq
             (.reg [⟨some 26, none, .mov (.t 4)⟩,
              ⟨some 27, none, .mov (.t 5)⟩,
              ⟨some 28, none, .mov (.t 6)⟩,
              ⟨some 29, none, .call false 24 [(.t 28)]⟩,
              ⟨some 30, none, .bslice false 1 [(.str [])] 1 [(0, (.t 29))]⟩,
              ⟨some 31, none, .call false 21 [(.t 26), (.t 27), (.t 30)]⟩,
              ⟨some 25, none, .mov (.t 31)⟩,
              ⟨some 32, none, .ext (.t 25) 0⟩,
              ⟨some 33, none, .ext (.t 25) 1⟩,
              ⟨some 34, none, .ext (.t 25) 2⟩,
              ⟨some 35, none, .ext (.t 25) 3⟩,
              ⟨some 7, none, .mov (.t 32)⟩,
              ⟨some 8, none, .mov (.t 33)⟩,
              ⟨some 9, none, .mov (.t 34)⟩,
              ⟨some 10, none, .mov (.t 35)⟩])
             (.seq
              (.reg [⟨some 36, none, .mov (.t 6)⟩,
               ⟨some 37, none, .bin .geq (.t 36) (.c (.int .i64 1000))⟩,
               ⟨some 38, none, .mov (.t 37)⟩,
               ⟨some 39, some (38, false), .mov (.t 6)⟩,
               ⟨some 40, some (38, false), .bin .geq (.t 39) (.c (.int .i64 1000))⟩,
               ⟨some 41, none, .pick (.t 38) (.c (.bool true)) (.t 40)⟩,
               ⟨some 11, none, .mov (.t 41)⟩])
              (.seq
               (.seq
                (.reg [⟨some 42, none, .mov (.t 11)⟩,
                 ⟨some 43, none, .mov (.t 10)⟩,
                 ⟨some 44, none, .bin .eql (.t 43) (.c (.int .i64 6))⟩,
                 ⟨some 45, none, .beq true (.t 42) (.t 44)⟩,
                 ⟨some 46, none, .mov (.t 45)⟩,
                 ⟨some 47, some (46, false), .mov (.t 11)⟩,
                 ⟨some 48, some (46, false), .un .not (.t 47)⟩,
                 ⟨some 49, some (46, false), .mov (.t 48)⟩,
                 ⟨some 50, some (49, true), .mov (.t 7)⟩,
                 ⟨some 51, some (49, true), .mov (.t 6)⟩,
                 ⟨some 52, some (49, true), .bin .neq (.t 50) (.t 51)⟩,
                 ⟨some 53, some (49, true), .mov (.t 52)⟩,
                 ⟨some 54, some (53, false), .mov (.t 10)⟩,
                 ⟨some 55, some (53, false), .bin .neq (.t 54) (.c (.int .i64 0))⟩,
                 ⟨some 56, some (49, true), .pick (.t 53) (.c (.bool true)) (.t 55)⟩,
                 ⟨some 57, some (46, false), .pick (.t 49) (.t 56) (.c (.bool false))⟩,
                 ⟨some 58, none, .pick (.t 46) (.c (.bool true)) (.t 57)⟩,
                 ⟨some 59, none, .mov (.t 58)⟩,
                 ⟨some 60, some (59, false), .mov (.t 11)⟩,
                 ⟨some 61, some (59, false), .mov (.t 60)⟩,
                 ⟨some 62, some (61, true), .mov (.t 7)⟩,
                 ⟨some 63, some (61, true), .bin .neq (.t 62) (.c (.int .i64 0))⟩,
                 ⟨some 64, some (61, true), .mov (.t 63)⟩,
                 ⟨some 65, some (64, false), .mov (.t 8)⟩,
                 ⟨some 66, some (64, false), .len (.t 65)⟩,
                 ⟨some 67, some (64, false), .mov (.t 4)⟩,
                 ⟨some 68, some (64, false), .len (.t 67)⟩,
                 ⟨some 69, some (64, false), .bin .neq (.t 66) (.t 68)⟩,
                 ⟨some 70, some (61, true), .pick (.t 64) (.c (.bool true)) (.t 69)⟩,
                 ⟨some 71, some (61, true), .mov (.t 70)⟩,
                 ⟨some 72, some (71, false), .mov (.t 9)⟩,
                 ⟨some 73, some (71, false), .len (.t 72)⟩,
                 ⟨some 74, some (71, false), .mov (.t 5)⟩,
                 ⟨some 75, some (71, false), .len (.t 74)⟩,
                 ⟨some 76, some (71, false), .bin .neq (.t 73) (.t 75)⟩,
                 ⟨some 77, some (61, true), .pick (.t 71) (.c (.bool true)) (.t 76)⟩,
                 ⟨some 78, some (59, false), .pick (.t 61) (.t 77) (.c (.bool false))⟩,
                 ⟨some 79, none, .pick (.t 59) (.c (.bool true)) (.t 78)⟩])
                (.cond (.t 79)
                 (.seq
                  (.reg [⟨some 2, none, .mov (.c (.bool false))⟩])
                  .ret)
                 .skip))
               (.reg [⟨some 80, none, .mov (.t 8)⟩,
                ⟨some 81, none, .mov (.t 9)⟩,
                ⟨some 4, none, .mov (.t 80)⟩,
                ⟨some 5, none, .mov (.t 81)⟩])))))
           (.reg [⟨some 23, none, .mov (.t 6)⟩,
            ⟨some 24, none, .bin .add (.t 23) (.c (.int .i64 1))⟩,
            ⟨some 6, none, .mov (.t 24)⟩])))
def c7r0 : AC := (.seq
       (.reg [⟨some 83, none, .mov (.t 4)⟩,
        ⟨some 84, none, .mov (.t 5)⟩,
        ⟨some 85, none, .call false 24 [(.c (.int .i64 5))]⟩,
        ⟨some 86, none, .bslice false 1 [(.str [])] 1 [(0, (.t 85))]⟩,
        ⟨some 87, none, .call false 21 [(.t 83), (.t 84), (.t 86)]⟩,
        ⟨some 82, none, .mov (.t 87)⟩,
        ⟨some 88, none, .ext (.t 82) 0⟩,
        ⟨some 89, none, .ext (.t 82) 1⟩,
        ⟨some 90, none, .ext (.t 82) 2⟩,
        ⟨some 91, none, .ext (.t 82) 3⟩,
        ⟨some 12, none, .mov (.t 88)⟩,
        ⟨some 13, none, .mov (.t 89)⟩,
        ⟨some 14, none, .mov (.t 90)⟩,
        ⟨some 15, none, .mov (.t 91)⟩])
       (.seq
        (.reg [⟨some 92, none, .mov (.t 12)⟩,
         ⟨some 93, none, .bin .eql (.t 92) (.c (.int .i64 5))⟩,
         ⟨some 94, none, .mov (.t 93)⟩,
         ⟨some 95, some (94, true), .mov (.t 13)⟩,
         ⟨some 96, some (94, true), .len (.t 95)⟩,
         ⟨some 97, some (94, true), .mov (.t 4)⟩,
         ⟨some 98, some (94, true), .len (.t 97)⟩,
         ⟨some 99, some (94, true), .bin .eql (.t 96) (.t 98)⟩,
         ⟨some 100, none, .pick (.t 94) (.t 99) (.c (.bool false))⟩,
         ⟨some 101, none, .mov (.t 100)⟩,
         ⟨some 102, some (101, true), .mov (.t 14)⟩,
         ⟨some 103, some (101, true), .len (.t 102)⟩,
         ⟨some 104, some (101, true), .mov (.t 5)⟩,
         ⟨some 105, some (101, true), .len (.t 104)⟩,
         ⟨some 106, some (101, true), .bin .eql (.t 103) (.t 105)⟩,
         ⟨some 107, none, .pick (.t 101) (.t 106) (.c (.bool false))⟩,
         ⟨some 108, none, .mov (.t 107)⟩,
         ⟨some 109, some (108, true), .mov (.t 15)⟩,
         ⟨some 110, some (108, true), .bin .eql (.t 109) (.c (.int .i64 0))⟩,
         ⟨some 111, none, .pick (.t 108) (.t 110) (.c (.bool false))⟩,
         ⟨some 112, none, .mov (.t 111)⟩,
         ⟨some 113, some (112, true), .mov (.t 4)⟩,
         ⟨some 114, some (112, true), .len (.t 113)⟩,
         ⟨some 115, some (112, true), .mov (.t 3)⟩,
         ⟨some 116, some (112, true), .min [(.t 115), (.c (.int .i64 1000))]⟩,
         ⟨some 117, some (112, true), .bin .eql (.t 114) (.t 116)⟩,
         ⟨some 118, none, .pick (.t 112) (.t 117) (.c (.bool false))⟩,
         ⟨some 119, none, .mov (.t 118)⟩,
         ⟨some 120, some (119, true), .call false 9 []⟩,
         ⟨some 121, none, .pick (.t 119) (.t 120) (.c (.bool false))⟩,
         ⟨some 2, none, .mov (.t 121)⟩])
        .ret))
/-- tracebook/tracebooklaw06.InternFull -/
def c7 : AFn := ⟨1, 122, [.t 2],
 (.seq
  (.reg [⟨some 2, none, .mov (.c (.bool false))⟩])
  (.seq
   (.reg [⟨some 16, none, .mov (.t 0)⟩,
    ⟨some 17, none, .bin .rem (.t 16) (.c (.int .u8 7))⟩,
    ⟨some 18, none, .conv (.int .i64) (.t 17)⟩,
    ⟨some 19, none, .bin .add (.c (.int .i64 997)) (.t 18)⟩,
    ⟨some 3, none, .mov (.t 19)⟩])
   (.seq
    (.reg [⟨some 4, none, .nilv 1⟩])
    (.seq
     (.reg [⟨some 5, none, .nilv 2⟩])
     (.seq
      (.seq
       (.reg [⟨some 6, none, .mov (.c (.int .i64 0))⟩])
       (.block 0
        (.loop [3, 4, 5, 6]
         c7b0)))
      c7r0))))), none⟩
def k7 : List (List Nat) := [[3, 4, 5, 6]]
def o7 : List Nat := [1000027]
/-- tracebook/tracebooklaw06.small -/
def c8 : AFn := ⟨1, 13, [.t 2],
 (.seq
  (.reg [⟨some 1, none, .box (.t 0)⟩,
   ⟨some 2, none, .mov (.c (.bool false))⟩])
  (.seq
   (.reg [⟨some 3, none, .faddr 0 (.t 1)⟩,
    ⟨some 4, none, .load 1 false (.t 3)⟩,
    ⟨some 5, none, .len (.t 4)⟩,
    ⟨some 6, none, .bin .leq (.t 5) (.c (.int .i64 1100))⟩,
    ⟨some 7, none, .mov (.t 6)⟩,
    ⟨some 8, some (7, true), .faddr 1 (.t 1)⟩,
    ⟨some 9, some (7, true), .load 1 false (.t 8)⟩,
    ⟨some 10, some (7, true), .len (.t 9)⟩,
    ⟨some 11, some (7, true), .bin .leq (.t 10) (.c (.int .i64 1100))⟩,
    ⟨some 12, none, .pick (.t 7) (.t 11) (.c (.bool false))⟩,
    ⟨some 2, none, .mov (.t 12)⟩])
   .ret)), none⟩
def k8 : List (List Nat) := []
def o8 : List Nat := [1000027]
/-- tracebook/tracebooklaw06.awake -/
def c9 : AFn := ⟨0, 158, [.t 0],
 (.seq
  (.reg [⟨some 0, none, .mov (.c (.bool false))⟩])
  (.seq
   (.reg [⟨some 20, none, .bslice false 1 [(.str [])] 2 [(0, (.c (.str [109, 97, 105, 110]))), (1, (.c (.str [108, 111, 111, 112])))]⟩,
    ⟨some 21, none, .call false 21 [(.c .nilS), (.c .nilS), (.t 20)]⟩,
    ⟨some 19, none, .mov (.t 21)⟩,
    ⟨some 22, none, .ext (.t 19) 0⟩,
    ⟨some 23, none, .ext (.t 19) 1⟩,
    ⟨some 24, none, .ext (.t 19) 2⟩,
    ⟨some 25, none, .ext (.t 19) 3⟩,
    ⟨some 1, none, .mov (.t 22)⟩,
    ⟨some 2, none, .mov (.t 23)⟩,
    ⟨some 3, none, .mov (.t 24)⟩,
    ⟨some 4, none, .mov (.t 25)⟩])
   (.seq
    (.reg [⟨some 27, none, .mov (.t 2)⟩,
     ⟨some 28, none, .mov (.t 3)⟩,
     ⟨some 29, none, .bslice false 1 [(.str [])] 2 [(0, (.c (.str [109, 97, 105, 110]))), (1, (.c (.str [119, 97, 105, 116])))]⟩,
     ⟨some 30, none, .call false 21 [(.t 27), (.t 28), (.t 29)]⟩,
     ⟨some 26, none, .mov (.t 30)⟩,
     ⟨some 31, none, .ext (.t 26) 0⟩,
     ⟨some 32, none, .ext (.t 26) 1⟩,
     ⟨some 33, none, .ext (.t 26) 2⟩,
     ⟨some 34, none, .ext (.t 26) 3⟩,
     ⟨some 5, none, .mov (.t 31)⟩,
     ⟨some 2, none, .mov (.t 32)⟩,
     ⟨some 3, none, .mov (.t 33)⟩,
     ⟨some 6, none, .mov (.t 34)⟩])
    (.seq
     (.reg [⟨some 36, none, .mov (.t 2)⟩,
      ⟨some 37, none, .mov (.t 3)⟩,
      ⟨some 38, none, .call false 12 [(.t 36), (.t 37), (.c (.int .i64 2))]⟩,
      ⟨some 35, none, .mov (.t 38)⟩,
      ⟨some 39, none, .ext (.t 35) 0⟩,
      ⟨some 40, none, .ext (.t 35) 1⟩,
      ⟨some 7, none, .mov (.t 39)⟩,
      ⟨some 8, none, .mov (.t 40)⟩])
     (.seq
      (.reg [⟨some 42, none, .mov (.t 2)⟩,
       ⟨some 43, none, .mov (.t 3)⟩,
       ⟨some 44, none, .call false 12 [(.t 42), (.t 43), (.c (.int .i64 (-1)))]⟩,
       ⟨some 41, none, .mov (.t 44)⟩,
       ⟨some 45, none, .ext (.t 41) 0⟩,
       ⟨some 46, none, .ext (.t 41) 1⟩,
       ⟨some 9, none, .mov (.t 45)⟩,
       ⟨some 10, none, .mov (.t 46)⟩])
      (.seq
       (.reg [⟨some 48, none, .mov (.t 2)⟩,
        ⟨some 49, none, .mov (.t 3)⟩,
        ⟨some 50, none, .call false 12 [(.t 48), (.t 49), (.c (.int .i64 3))]⟩,
        ⟨some 47, none, .mov (.t 50)⟩,
        ⟨some 51, none, .ext (.t 47) 0⟩,
        ⟨some 52, none, .ext (.t 47) 1⟩,
        ⟨some 11, none, .mov (.t 51)⟩,
        ⟨some 12, none, .mov (.t 52)⟩])
       (.seq
        (.reg [⟨some 54, none, .bslice false 1 [(.str [])] 2 [(0, (.c (.str [97]))), (1, (.c (.str [98])))]⟩,
         ⟨some 55, none, .call false 19 [(.t 54), (.c (.str [98]))]⟩,
         ⟨some 53, none, .mov (.t 55)⟩,
         ⟨some 56, none, .ext (.t 53) 0⟩,
         ⟨some 57, none, .ext (.t 53) 1⟩,
         ⟨some 58, none, .ext (.t 53) 2⟩,
         ⟨some 13, none, .mov (.t 56)⟩,
         ⟨some 14, none, .mov (.t 57)⟩,
         ⟨some 15, none, .mov (.t 58)⟩])
        (.seq
         (.reg [⟨some 60, none, .bslice false 1 [(.str [])] 2 [(0, (.c (.str [97]))), (1, (.c (.str [98])))]⟩,
          ⟨some 61, none, .call false 19 [(.t 60), (.c (.str [99]))]⟩,
          ⟨some 59, none, .mov (.t 61)⟩,
          ⟨some 62, none, .ext (.t 59) 0⟩,
          ⟨some 63, none, .ext (.t 59) 1⟩,
          ⟨some 64, none, .ext (.t 59) 2⟩,
          ⟨some 16, none, .mov (.t 62)⟩,
          ⟨some 17, none, .mov (.t 63)⟩,
          ⟨some 18, none, .mov (.t 64)⟩])
         (.seq
          (.reg [⟨some 65, none, .mov (.t 1)⟩,
           ⟨some 66, none, .bin .eql (.t 65) (.c (.int .i64 1))⟩,
           ⟨some 67, none, .mov (.t 66)⟩,
           ⟨some 68, some (67, true), .mov (.t 4)⟩,
           ⟨some 69, some (67, true), .bin .eql (.t 68) (.c (.int .i64 0))⟩,
           ⟨some 70, none, .pick (.t 67) (.t 69) (.c (.bool false))⟩,
           ⟨some 71, none, .mov (.t 70)⟩,
           ⟨some 72, some (71, true), .mov (.t 5)⟩,
           ⟨some 73, some (71, true), .bin .eql (.t 72) (.c (.int .i64 2))⟩,
           ⟨some 74, none, .pick (.t 71) (.t 73) (.c (.bool false))⟩,
           ⟨some 75, none, .mov (.t 74)⟩,
           ⟨some 76, some (75, true), .mov (.t 6)⟩,
           ⟨some 77, some (75, true), .bin .eql (.t 76) (.c (.int .i64 0))⟩,
           ⟨some 78, none, .pick (.t 75) (.t 77) (.c (.bool false))⟩,
           ⟨some 79, none, .mov (.t 78)⟩,
           ⟨some 80, some (79, true), .mov (.t 3)⟩,
           ⟨some 81, some (79, true), .build [(.int .i64 0), (.int .i64 0)] [(0, 1, (.c (.int .i64 (-1)))), (1, 1, (.c (.int .i64 0)))]⟩,
           ⟨some 82, some (79, true), .build [(.int .i64 0), (.int .i64 0)] [(0, 1, (.c (.int .i64 0))), (1, 1, (.c (.int .i64 1)))]⟩,
           ⟨some 83, some (79, true), .build [(.int .i64 0), (.int .i64 0)] [(0, 1, (.c (.int .i64 0))), (1, 1, (.c (.int .i64 2)))]⟩,
           ⟨some 84, some (79, true), .bslice false 2 [(.int .i64 0), (.int .i64 0)] 3 [(0, (.t 81)), (1, (.t 82)), (2, (.t 83))]⟩,
           ⟨some 85, some (79, true), .call false 23 [(.t 80), (.t 84)]⟩,
           ⟨some 86, none, .pick (.t 79) (.t 85) (.c (.bool false))⟩,
           ⟨some 87, none, .mov (.t 86)⟩,
           ⟨some 88, some (87, true), .mov (.t 7)⟩,
           ⟨some 89, some (87, true), .bslice false 1 [(.str [])] 2 [(0, (.c (.str [109, 97, 105, 110]))), (1, (.c (.str [119, 97, 105, 116])))]⟩,
           ⟨some 90, some (87, true), .call false 18 [(.t 88), (.t 89)]⟩,
           ⟨some 91, none, .pick (.t 87) (.t 90) (.c (.bool false))⟩,
           ⟨some 92, none, .mov (.t 91)⟩,
           ⟨some 93, some (92, true), .mov (.t 8)⟩,
           ⟨some 94, some (92, true), .bin .eql (.t 93) (.c (.int .i64 0))⟩,
           ⟨some 95, none, .pick (.t 92) (.t 94) (.c (.bool false))⟩,
           ⟨some 96, none, .mov (.t 95)⟩,
           ⟨some 97, some (96, true), .mov (.t 9)⟩,
           ⟨some 98, some (96, true), .len (.t 97)⟩,
           ⟨some 99, some (96, true), .bin .eql (.t 98) (.c (.int .i64 0))⟩,
           ⟨some 100, none, .pick (.t 96) (.t 99) (.c (.bool false))⟩,
           ⟨some 101, none, .mov (.t 100)⟩,
           ⟨some 102, some (101, true), .mov (.t 10)⟩,
           ⟨some 103, some (101, true), .bin .eql (.t 102) (.c (.int .i64 0))⟩,
           ⟨some 104, none, .pick (.t 101) (.t 103) (.c (.bool false))⟩,
           ⟨some 105, none, .mov (.t 104)⟩,
           ⟨some 106, some (105, true), .mov (.t 12)⟩,
           ⟨some 107, some (105, true), .bin .eql (.t 106) (.c (.int .i64 2))⟩,
           ⟨some 108, none, .pick (.t 105) (.t 107) (.c (.bool false))⟩,
           ⟨some 109, none, .mov (.t 108)⟩,
           ⟨some 110, some (109, true), .mov (.t 13)⟩,
           ⟨some 111, some (109, true), .bin .eql (.t 110) (.c (.int .i64 1))⟩,
           ⟨some 112, none, .pick (.t 109) (.t 111) (.c (.bool false))⟩,
           ⟨some 113, none, .mov (.t 112)⟩,
           ⟨some 114, some (113, true), .mov (.t 14)⟩,
           ⟨some 115, some (113, true), .len (.t 114)⟩,
           ⟨some 116, some (113, true), .bin .eql (.t 115) (.c (.int .i64 2))⟩,
           ⟨some 117, none, .pick (.t 113) (.t 116) (.c (.bool false))⟩,
           ⟨some 118, none, .mov (.t 117)⟩,
           ⟨some 119, some (118, true), .mov (.t 15)⟩,
           ⟨some 120, some (118, true), .bin .eql (.t 119) (.c (.int .i64 0))⟩,
           ⟨some 121, none, .pick (.t 118) (.t 120) (.c (.bool false))⟩,
           ⟨some 122, none, .mov (.t 121)⟩,
           ⟨some 123, some (122, true), .mov (.t 16)⟩,
           ⟨some 124, some (122, true), .bin .eql (.t 123) (.c (.int .i64 2))⟩,
           ⟨some 125, none, .pick (.t 122) (.t 124) (.c (.bool false))⟩,
           ⟨some 126, none, .mov (.t 125)⟩,
           ⟨some 127, some (126, true), .mov (.t 17)⟩,
           ⟨some 128, some (126, true), .bslice false 1 [(.str [])] 3 [(0, (.c (.str [97]))), (1, (.c (.str [98]))), (2, (.c (.str [99])))]⟩,
           ⟨some 129, some (126, true), .call false 18 [(.t 127), (.t 128)]⟩,
           ⟨some 130, none, .pick (.t 126) (.t 129) (.c (.bool false))⟩,
           ⟨some 131, none, .mov (.t 130)⟩,
           ⟨some 132, some (131, true), .mov (.t 18)⟩,
           ⟨some 133, some (131, true), .bin .eql (.t 132) (.c (.int .i64 0))⟩,
           ⟨some 134, none, .pick (.t 131) (.t 133) (.c (.bool false))⟩,
           ⟨some 135, none, .mov (.t 134)⟩,
           ⟨some 136, some (135, true), .call false 10 [(.c (.str [109, 97, 105, 110, 46, 108, 111, 111, 112, 58, 55]))]⟩,
           ⟨some 137, some (135, true), .bin .eql (.t 136) (.c (.int .i64 0))⟩,
           ⟨some 138, none, .pick (.t 135) (.t 137) (.c (.bool false))⟩,
           ⟨some 139, none, .mov (.t 138)⟩,
           ⟨some 140, some (139, true), .call false 10 [(.c (.str [97, 32, 98]))]⟩,
           ⟨some 141, some (139, true), .bin .eql (.t 140) (.c (.int .i64 3))⟩,
           ⟨some 142, none, .pick (.t 139) (.t 141) (.c (.bool false))⟩,
           ⟨some 143, none, .mov (.t 142)⟩,
           ⟨some 144, some (143, true), .bslice false 1 [(.str [])] 1 [(0, (.c (.str [97])))]⟩,
           ⟨some 145, some (143, true), .build [(.int .i64 0), (.int .i64 0)] [(0, 1, (.c (.int .i64 (-1)))), (1, 1, (.c (.int .i64 0)))]⟩,
           ⟨some 146, some (143, true), .build [(.int .i64 0), (.int .i64 0)] [(0, 1, (.c (.int .i64 (-1)))), (1, 1, (.c (.int .i64 0)))]⟩,
           ⟨some 147, some (143, true), .bslice false 2 [(.int .i64 0), (.int .i64 0)] 2 [(0, (.t 145)), (1, (.t 146))]⟩,
           ⟨some 148, some (143, true), .call false 16 [(.t 144), (.t 147)]⟩,
           ⟨some 149, some (143, true), .bin .eql (.t 148) (.c (.int .i64 4))⟩,
           ⟨some 150, none, .pick (.t 143) (.t 149) (.c (.bool false))⟩,
           ⟨some 151, none, .mov (.t 150)⟩,
           ⟨some 152, some (151, true), .bslice false 1 [(.str [])] 1 [(0, (.c (.str [97])))]⟩,
           ⟨some 153, some (151, true), .build [(.int .i64 0), (.int .i64 0)] [(0, 1, (.c (.int .i64 0))), (1, 1, (.c (.int .i64 0)))]⟩,
           ⟨some 154, some (151, true), .bslice false 2 [(.int .i64 0), (.int .i64 0)] 1 [(0, (.t 153))]⟩,
           ⟨some 155, some (151, true), .call false 16 [(.t 152), (.t 154)]⟩,
           ⟨some 156, some (151, true), .bin .eql (.t 155) (.c (.int .i64 2))⟩,
           ⟨some 157, none, .pick (.t 151) (.t 156) (.c (.bool false))⟩,
           ⟨some 0, none, .mov (.t 157)⟩])
          .ret))))))))), none⟩
def k9 : List (List Nat) := []
def o9 : List Nat := [1000027]
def c10b0 : AC := (.seq
        (.reg [⟨some 15, none, .bin .lss (.t 14) (.t 13)⟩])
        (.seq
         (.cond (.t 15)
          .skip
          (.exit 0))
         (.seq
          (.block 1
           (.seq
            (.reg [⟨some 16, none, .mov (.t 14)⟩,
             ⟨some 3, none, .mov (.t 16)⟩])
            (.seq
             (.reg [⟨some 17, none, .mov (.t 0)⟩,
              ⟨some 18, none, .mov (.t 3)⟩,
              ⟨some 19, none, .idxS (.t 17) (.t 18)⟩,
              ⟨some 20, none, .call false 25 [(.t 19)]⟩,
              ⟨some 21, none, .un .not (.t 20)⟩])
             (.cond (.t 21)
              (.seq
               (.reg [⟨some 2, none, .mov (.c (.int .i64 3))⟩])
               .ret)
              .skip))))
          (.reg [⟨some 22, none, .bin .add (.t 14) (.c (.int .i64 1))⟩,
           ⟨some 14, none, .mov (.t 22)⟩]))))
/-- tracebook/intern.Name -/
def c10 : AFn := ⟨1, 23, [.t 2],
 (.seq
  (.reg [⟨some 2, none, .mov (.c (.int .i64 0))⟩])
  (.seq
   (.seq
    (.reg [⟨some 4, none, .mov (.t 0)⟩,
     ⟨some 5, none, .lenS (.t 4)⟩,
     ⟨some 6, none, .bin .lss (.t 5) (.c (.int .i64 1))⟩,
     ⟨some 7, none, .mov (.t 6)⟩,
     ⟨some 8, some (7, false), .mov (.t 0)⟩,
     ⟨some 9, some (7, false), .lenS (.t 8)⟩,
     ⟨some 10, some (7, false), .bin .gtr (.t 9) (.c (.int .i64 40))⟩,
     ⟨some 11, none, .pick (.t 7) (.c (.bool true)) (.t 10)⟩])
    (.cond (.t 11)
     (.seq
      (.reg [⟨some 2, none, .mov (.c (.int .i64 3))⟩])
      .ret)
     .skip))
   (.seq
    (.seq
     (.reg [⟨some 12, none, .mov (.t 0)⟩,
      ⟨some 13, none, .lenS (.t 12)⟩,
      ⟨some 14, none, .mov (.c (.int .i64 0))⟩])
     (.block 0
      (.loop [0, 13, 14]
       c10b0)))
    (.seq
     (.reg [⟨some 2, none, .mov (.c (.int .i64 0))⟩])
     .ret)))), none⟩
def k10 : List (List Nat) := [[0, 13, 14]]
def o10 : List Nat := [1000027]
def c11b0 : AC := (.seq
        (.seq
         (.reg [⟨some 12, none, .mov (.t 3)⟩,
          ⟨some 13, none, .mov (.t 0)⟩,
          ⟨some 14, none, .lenS (.t 13)⟩,
          ⟨some 15, none, .bin .lss (.t 12) (.t 14)⟩])
         (.cond (.t 15)
          .skip
          (.exit 0)))
        (.seq
         (.block 1
          (.seq
           (.reg [⟨some 18, none, .mov (.t 0)⟩,
            ⟨some 19, none, .mov (.t 3)⟩,
            ⟨some 20, none, .idxS (.t 18) (.t 19)⟩,
            ⟨some 21, none, .call false 26 [(.t 20)]⟩,
            ⟨some 22, none, .un .not (.t 21)⟩])
           (.cond (.t 22)
            (.seq
             (.reg [⟨some 2, none, .mov (.c (.int .i64 3))⟩])
             .ret)
            .skip)))
         (.reg [⟨some 16, none, .mov (.t 3)⟩,
          ⟨some 17, none, .bin .add (.t 16) (.c (.int .i64 1))⟩,
          ⟨some 3, none, .mov (.t 17)⟩])))
/-- tracebook/tracebookref06.Name -/
def c11 : AFn := ⟨1, 23, [.t 2],
 (.seq
  (.reg [⟨some 2, none, .mov (.c (.int .i64 0))⟩])
  (.seq
   (.seq
    (.reg [⟨some 4, none, .mov (.t 0)⟩,
     ⟨some 5, none, .lenS (.t 4)⟩,
     ⟨some 6, none, .bin .lss (.t 5) (.c (.int .i64 1))⟩,
     ⟨some 7, none, .mov (.t 6)⟩,
     ⟨some 8, some (7, false), .mov (.t 0)⟩,
     ⟨some 9, some (7, false), .lenS (.t 8)⟩,
     ⟨some 10, some (7, false), .bin .gtr (.t 9) (.c (.int .i64 40))⟩,
     ⟨some 11, none, .pick (.t 7) (.c (.bool true)) (.t 10)⟩])
    (.cond (.t 11)
     (.seq
      (.reg [⟨some 2, none, .mov (.c (.int .i64 3))⟩])
      .ret)
     .skip))
   (.seq
    (.seq
     (.reg [⟨some 3, none, .mov (.c (.int .i64 0))⟩])
     (.block 0
      (.loop [0, 3]
       c11b0)))
    (.seq
     (.reg [⟨some 2, none, .mov (.c (.int .i64 0))⟩])
     .ret)))), none⟩
def k11 : List (List Nat) := [[0, 3]]
def o11 : List Nat := [1000027]
def c12b0 : AC := (.seq
         (.seq
          (.reg [⟨some 21, none, .mov (.t 2)⟩,
           ⟨some 22, none, .bin .geq (.t 21) (.c (.int .i64 0))⟩])
          (.cond (.t 22)
           .skip
           (.exit 0)))
         (.seq
          (.block 1
           (.reg [⟨some 28, none, .mov (.t 8)⟩,
            ⟨some 29, none, .mov (.t 0)⟩,
            ⟨some 30, none, .mov (.t 1)⟩,
            ⟨some 31, none, .mov (.t 2)⟩,
            ⟨some 32, none, .iaddr (.slice 2) (.t 30) (.t 31)⟩,
            ⟨some 33, none, .iaddr (.array 2 1) (.t 32) (.c (.int .i64 1))⟩,
            ⟨some 34, none, .load 1 false (.t 33)⟩,
            ⟨some 35, none, .iaddr (.slice 1) (.t 29) (.t 34)⟩,
            ⟨some 36, none, .load 1 false (.t 35)⟩,
            ⟨some 37, none, .bslice false 1 [(.str [])] 1 [(0, (.t 36))]⟩,
            ⟨some 38, none, .append 1 16 (.t 28) (.t 37)⟩,
            ⟨some 8, none, .mov (.t 38)⟩]))
          (.reg [⟨some 23, none, .mov (.t 1)⟩,
           ⟨some 24, none, .mov (.t 2)⟩,
           ⟨some 25, none, .iaddr (.slice 2) (.t 23) (.t 24)⟩,
           ⟨some 26, none, .iaddr (.array 2 1) (.t 25) (.c (.int .i64 0))⟩,
           ⟨some 27, none, .load 1 false (.t 26)⟩,
           ⟨some 2, none, .mov (.t 27)⟩])))
def c12r0 : AC := (.seq
       (.reg [⟨some 39, none, .mov (.t 8)⟩,
        ⟨some 40, none, .callS 27 [(.t 39)]⟩])
       (.seq
        (.reg [⟨some 41, none, .mov (.t 8)⟩,
         ⟨some 6, none, .mov (.t 41)⟩,
         ⟨some 7, none, .mov (.c (.int .i64 0))⟩])
        .ret))
/-- tracebook/intern.Stack -/
def c12 : AFn := ⟨3, 42, [.t 6, .t 7],
 (.seq
  (.reg [⟨some 6, none, .nilv 1⟩,
   ⟨some 7, none, .mov (.c (.int .i64 0))⟩])
  (.seq
   (.seq
    (.reg [⟨some 9, none, .mov (.t 0)⟩,
     ⟨some 10, none, .mov (.t 1)⟩,
     ⟨some 11, none, .call false 16 [(.t 9), (.t 10)]⟩,
     ⟨some 12, none, .bin .neq (.t 11) (.c (.int .i64 0))⟩])
    (.cond (.t 12)
     (.seq
      (.reg [⟨some 6, none, .nilv 1⟩,
       ⟨some 7, none, .mov (.c (.int .i64 1))⟩])
      .ret)
     .skip))
   (.seq
    (.seq
     (.reg [⟨some 13, none, .mov (.t 2)⟩,
      ⟨some 14, none, .bin .lss (.t 13) (.c (.int .i64 (-1)))⟩,
      ⟨some 15, none, .mov (.t 14)⟩,
      ⟨some 16, some (15, false), .mov (.t 2)⟩,
      ⟨some 17, some (15, false), .mov (.t 1)⟩,
      ⟨some 18, some (15, false), .len (.t 17)⟩,
      ⟨some 19, some (15, false), .bin .geq (.t 16) (.t 18)⟩,
      ⟨some 20, none, .pick (.t 15) (.c (.bool true)) (.t 19)⟩])
     (.cond (.t 20)
      (.seq
       (.reg [⟨some 6, none, .nilv 1⟩,
        ⟨some 7, none, .mov (.c (.int .i64 2))⟩])
       .ret)
      .skip))
    (.seq
     (.reg [⟨some 8, none, .nilv 1⟩])
     (.seq
      (.block 0
       (.loop [0, 1, 2, 8]
        c12b0))
      c12r0))))), none⟩
def k12 : List (List Nat) := [[0, 1, 2, 8]]
def o12 : List Nat := [1000027]
def c13b0 : AC := (.seq
         (.seq
          (.reg [⟨some 21, none, .mov (.t 2)⟩,
           ⟨some 22, none, .bin .geq (.t 21) (.c (.int .i64 0))⟩])
          (.cond (.t 22)
           .skip
           (.exit 0)))
         (.block 1
          (.seq
           (.reg [⟨some 23, none, .mov (.t 0)⟩,
            ⟨some 24, none, .mov (.t 1)⟩,
            ⟨some 25, none, .mov (.t 2)⟩,
            ⟨some 26, none, .iaddr (.slice 2) (.t 24) (.t 25)⟩,
            ⟨some 27, none, .iaddr (.array 2 1) (.t 26) (.c (.int .i64 1))⟩,
            ⟨some 28, none, .load 1 false (.t 27)⟩,
            ⟨some 29, none, .iaddr (.slice 1) (.t 23) (.t 28)⟩,
            ⟨some 30, none, .load 1 false (.t 29)⟩,
            ⟨some 31, none, .bslice true 1 [(.str [])] 1 [(0, (.t 30))]⟩,
            ⟨some 32, none, .mov (.t 8)⟩,
            ⟨some 33, none, .append 1 16 (.t 31) (.t 32)⟩,
            ⟨some 8, none, .mov (.t 33)⟩])
           (.reg [⟨some 34, none, .mov (.t 1)⟩,
            ⟨some 35, none, .mov (.t 2)⟩,
            ⟨some 36, none, .iaddr (.slice 2) (.t 34) (.t 35)⟩,
            ⟨some 37, none, .iaddr (.array 2 1) (.t 36) (.c (.int .i64 0))⟩,
            ⟨some 38, none, .load 1 false (.t 37)⟩,
            ⟨some 2, none, .mov (.t 38)⟩]))))
/-- tracebook/tracebookref06.Stack -/
def c13 : AFn := ⟨3, 40, [.t 6, .t 7],
 (.seq
  (.reg [⟨some 6, none, .nilv 1⟩,
   ⟨some 7, none, .mov (.c (.int .i64 0))⟩])
  (.seq
   (.seq
    (.reg [⟨some 9, none, .mov (.t 0)⟩,
     ⟨some 10, none, .mov (.t 1)⟩,
     ⟨some 11, none, .call false 17 [(.t 9), (.t 10)]⟩,
     ⟨some 12, none, .bin .neq (.t 11) (.c (.int .i64 0))⟩])
    (.cond (.t 12)
     (.seq
      (.reg [⟨some 6, none, .nilv 1⟩,
       ⟨some 7, none, .mov (.c (.int .i64 1))⟩])
      .ret)
     .skip))
   (.seq
    (.seq
     (.reg [⟨some 13, none, .mov (.t 2)⟩,
      ⟨some 14, none, .bin .lss (.t 13) (.c (.int .i64 (-1)))⟩,
      ⟨some 15, none, .mov (.t 14)⟩,
      ⟨some 16, some (15, false), .mov (.t 2)⟩,
      ⟨some 17, some (15, false), .mov (.t 1)⟩,
      ⟨some 18, some (15, false), .len (.t 17)⟩,
      ⟨some 19, some (15, false), .bin .geq (.t 16) (.t 18)⟩,
      ⟨some 20, none, .pick (.t 15) (.c (.bool true)) (.t 19)⟩])
     (.cond (.t 20)
      (.seq
       (.reg [⟨some 6, none, .nilv 1⟩,
        ⟨some 7, none, .mov (.c (.int .i64 2))⟩])
       .ret)
      .skip))
    (.seq
     (.reg [⟨some 8, none, .nilv 1⟩])
     (.seq
      (.block 0
       (.loop [0, 1, 2, 8]
        c13b0))
      (.seq
       (.reg [⟨some 39, none, .mov (.t 8)⟩,
        ⟨some 6, none, .mov (.t 39)⟩,
        ⟨some 7, none, .mov (.c (.int .i64 0))⟩])
       .ret)))))), none⟩
def k13 : List (List Nat) := [[0, 1, 2, 8]]
def o13 : List Nat := [1000027, 31]
def c14b0 : AC := (.seq
        (.reg [⟨some 12, none, .bin .lss (.t 11) (.t 10)⟩])
        (.seq
         (.cond (.t 12)
          .skip
          (.exit 0))
         (.seq
          (.block 1
           (.seq
            (.reg [⟨some 13, none, .iaddr (.slice 1) (.t 9) (.t 11)⟩,
             ⟨some 14, none, .load 1 false (.t 13)⟩,
             ⟨some 4, none, .mov (.t 14)⟩])
            (.seq
             (.reg [⟨some 15, none, .mov (.t 4)⟩,
              ⟨some 16, none, .call false 10 [(.t 15)]⟩,
              ⟨some 5, none, .mov (.t 16)⟩])
             (.seq
              (.reg [⟨some 17, none, .mov (.t 5)⟩,
               ⟨some 18, none, .bin .neq (.t 17) (.c (.int .i64 0))⟩])
              (.cond (.t 18)
               (.seq
                (.reg [⟨some 19, none, .mov (.t 5)⟩,
                 ⟨some 2, none, .mov (.t 19)⟩])
                .ret)
               .skip)))))
          (.reg [⟨some 20, none, .bin .add (.t 11) (.c (.int .i64 1))⟩,
           ⟨some 11, none, .mov (.t 20)⟩]))))
/-- tracebook/intern.Frames -/
def c14 : AFn := ⟨1, 21, [.t 2],
 (.seq
  (.reg [⟨some 2, none, .mov (.c (.int .i64 0))⟩])
  (.seq
   (.seq
    (.reg [⟨some 6, none, .mov (.t 0)⟩,
     ⟨some 7, none, .len (.t 6)⟩,
     ⟨some 8, none, .bin .gtr (.t 7) (.c (.int .i64 32))⟩])
    (.cond (.t 8)
     (.seq
      (.reg [⟨some 2, none, .mov (.c (.int .i64 7))⟩])
      .ret)
     .skip))
   (.seq
    (.seq
     (.reg [⟨some 9, none, .mov (.t 0)⟩,
      ⟨some 10, none, .len (.t 9)⟩,
      ⟨some 11, none, .mov (.c (.int .i64 0))⟩])
     (.block 0
      (.loop [9, 10, 11]
       c14b0)))
    (.seq
     (.reg [⟨some 2, none, .mov (.c (.int .i64 0))⟩])
     .ret)))), none⟩
def k14 : List (List Nat) := [[9, 10, 11]]
def o14 : List Nat := [1000027]
def c15b0 : AC := (.seq
        (.seq
         (.reg [⟨some 7, none, .mov (.t 3)⟩,
          ⟨some 8, none, .mov (.t 0)⟩,
          ⟨some 9, none, .len (.t 8)⟩,
          ⟨some 10, none, .bin .lss (.t 7) (.t 9)⟩])
         (.cond (.t 10)
          .skip
          (.exit 0)))
        (.seq
         (.block 1
          (.seq
           (.reg [⟨some 13, none, .mov (.t 0)⟩,
            ⟨some 14, none, .mov (.t 3)⟩,
            ⟨some 15, none, .iaddr (.slice 1) (.t 13) (.t 14)⟩,
            ⟨some 16, none, .load 1 false (.t 15)⟩,
            ⟨some 17, none, .call false 11 [(.t 16)]⟩,
            ⟨some 18, none, .bin .neq (.t 17) (.c (.int .i64 0))⟩])
           (.cond (.t 18)
            (.seq
             (.reg [⟨some 2, none, .mov (.c (.int .i64 3))⟩])
             .ret)
            .skip)))
         (.reg [⟨some 11, none, .mov (.t 3)⟩,
          ⟨some 12, none, .bin .add (.t 11) (.c (.int .i64 1))⟩,
          ⟨some 3, none, .mov (.t 12)⟩])))
/-- tracebook/tracebookref06.Frames -/
def c15 : AFn := ⟨1, 19, [.t 2],
 (.seq
  (.reg [⟨some 2, none, .mov (.c (.int .i64 0))⟩])
  (.seq
   (.seq
    (.reg [⟨some 4, none, .mov (.t 0)⟩,
     ⟨some 5, none, .len (.t 4)⟩,
     ⟨some 6, none, .bin .gtr (.t 5) (.c (.int .i64 32))⟩])
    (.cond (.t 6)
     (.seq
      (.reg [⟨some 2, none, .mov (.c (.int .i64 7))⟩])
      .ret)
     .skip))
   (.seq
    (.seq
     (.reg [⟨some 3, none, .mov (.c (.int .i64 0))⟩])
     (.block 0
      (.loop [0, 3]
       c15b0)))
    (.seq
     (.reg [⟨some 2, none, .mov (.c (.int .i64 0))⟩])
     .ret)))), none⟩
def k15 : List (List Nat) := [[0, 3]]
def o15 : List Nat := [1000027]
/-- tracebook/intern.Check -/
def c16 : AFn := ⟨2, 23, [.t 4],
 (.seq
  (.reg [⟨some 4, none, .mov (.c (.int .i64 0))⟩])
  (.seq
   (.seq
    (.reg [⟨some 6, none, .mov (.t 0)⟩,
     ⟨some 7, none, .len (.t 6)⟩,
     ⟨some 8, none, .bin .gtr (.t 7) (.c (.int .i64 1000))⟩,
     ⟨some 9, none, .mov (.t 8)⟩,
     ⟨some 10, some (9, false), .mov (.t 1)⟩,
     ⟨some 11, some (9, false), .len (.t 10)⟩,
     ⟨some 12, some (9, false), .bin .gtr (.t 11) (.c (.int .i64 1000))⟩,
     ⟨some 13, none, .pick (.t 9) (.c (.bool true)) (.t 12)⟩])
    (.cond (.t 13)
     (.seq
      (.reg [⟨some 4, none, .mov (.c (.int .i64 7))⟩])
      .ret)
     .skip))
   (.seq
    (.seq
     (.reg [⟨some 14, none, .mov (.t 0)⟩,
      ⟨some 15, none, .call false 28 [(.t 14)]⟩,
      ⟨some 5, none, .mov (.t 15)⟩])
     (.seq
      (.reg [⟨some 16, none, .mov (.t 5)⟩,
       ⟨some 17, none, .bin .neq (.t 16) (.c (.int .i64 0))⟩])
      (.cond (.t 17)
       (.seq
        (.reg [⟨some 18, none, .mov (.t 5)⟩,
         ⟨some 4, none, .mov (.t 18)⟩])
        .ret)
       .skip)))
    (.seq
     (.reg [⟨some 19, none, .mov (.t 0)⟩,
      ⟨some 20, none, .len (.t 19)⟩,
      ⟨some 21, none, .mov (.t 1)⟩,
      ⟨some 22, none, .call false 29 [(.t 20), (.t 21)]⟩,
      ⟨some 4, none, .mov (.t 22)⟩])
     .ret)))), none⟩
def k16 : List (List Nat) := []
def o16 : List Nat := [1000027]
def c17b0 : AC := (.seq
         (.seq
          (.reg [⟨some 37, none, .mov (.t 6)⟩,
           ⟨some 38, none, .mov (.t 1)⟩,
           ⟨some 39, none, .len (.t 38)⟩,
           ⟨some 40, none, .bin .lss (.t 37) (.t 39)⟩])
          (.cond (.t 40)
           .skip
           (.exit 2)))
         (.seq
          (.block 3
           (.seq
            (.reg [⟨some 43, none, .mov (.t 1)⟩,
             ⟨some 44, none, .mov (.t 6)⟩,
             ⟨some 45, none, .iaddr (.slice 2) (.t 43) (.t 44)⟩,
             ⟨some 46, none, .load 2 true (.t 45)⟩,
             ⟨some 7, none, .alloc [(.int .i64 0), (.int .i64 0)]⟩,
             ⟨none, none, .store 2 (.t 7) (.t 46)⟩])
            (.seq
             (.seq
              (.reg [⟨some 47, none, .iaddr (.array 2 1) (.t 7) (.c (.int .i64 0))⟩,
               ⟨some 48, none, .load 1 false (.t 47)⟩,
               ⟨some 49, none, .bin .lss (.t 48) (.c (.int .i64 (-1)))⟩,
               ⟨some 50, none, .mov (.t 49)⟩,
               ⟨some 51, some (50, false), .iaddr (.array 2 1) (.t 7) (.c (.int .i64 0))⟩,
               ⟨some 52, some (50, false), .load 1 false (.t 51)⟩,
               ⟨some 53, some (50, false), .mov (.t 6)⟩,
               ⟨some 54, some (50, false), .bin .geq (.t 52) (.t 53)⟩,
               ⟨some 55, none, .pick (.t 50) (.c (.bool true)) (.t 54)⟩,
               ⟨some 56, none, .mov (.t 55)⟩,
               ⟨some 57, some (56, false), .iaddr (.array 2 1) (.t 7) (.c (.int .i64 1))⟩,
               ⟨some 58, some (56, false), .load 1 false (.t 57)⟩,
               ⟨some 59, some (56, false), .bin .lss (.t 58) (.c (.int .i64 0))⟩,
               ⟨some 60, none, .pick (.t 56) (.c (.bool true)) (.t 59)⟩,
               ⟨some 61, none, .mov (.t 60)⟩,
               ⟨some 62, some (61, false), .iaddr (.array 2 1) (.t 7) (.c (.int .i64 1))⟩,
               ⟨some 63, some (61, false), .load 1 false (.t 62)⟩,
               ⟨some 64, some (61, false), .mov (.t 0)⟩,
               ⟨some 65, some (61, false), .len (.t 64)⟩,
               ⟨some 66, some (61, false), .bin .geq (.t 63) (.t 65)⟩,
               ⟨some 67, none, .pick (.t 61) (.c (.bool true)) (.t 66)⟩])
              (.cond (.t 67)
               (.seq
                (.reg [⟨some 4, none, .mov (.c (.int .i64 2))⟩])
                .ret)
               .skip))
             (.seq
              (.seq
               (.reg [⟨some 68, none, .mov (.t 1)⟩,
                ⟨some 69, none, .mov (.t 6)⟩,
                ⟨some 70, none, .slc (.slice 2) (.t 68) none (some (.t 69)) none⟩,
                ⟨some 71, none, .load 2 true (.t 7)⟩,
                ⟨some 72, none, .call false 31 [(.t 70), (.t 71)]⟩,
                ⟨some 73, none, .bin .geq (.t 72) (.c (.int .i64 0))⟩])
               (.cond (.t 73)
                (.seq
                 (.reg [⟨some 4, none, .mov (.c (.int .i64 4))⟩])
                 .ret)
                .skip))
              (.seq
               (.reg [⟨some 74, none, .mov (.t 1)⟩,
                ⟨some 75, none, .mov (.t 6)⟩,
                ⟨some 76, none, .call false 32 [(.t 74), (.t 75)]⟩,
                ⟨some 77, none, .bin .gtr (.t 76) (.c (.int .i64 32))⟩])
               (.cond (.t 77)
                (.seq
                 (.reg [⟨some 4, none, .mov (.c (.int .i64 7))⟩])
                 .ret)
                .skip))))))
          (.reg [⟨some 41, none, .mov (.t 6)⟩,
           ⟨some 42, none, .bin .add (.t 41) (.c (.int .i64 1))⟩,
           ⟨some 6, none, .mov (.t 42)⟩])))
def c17b1 : AC := (.seq
        (.seq
         (.reg [⟨some 16, none, .mov (.t 5)⟩,
          ⟨some 17, none, .mov (.t 0)⟩,
          ⟨some 18, none, .len (.t 17)⟩,
          ⟨some 19, none, .bin .lss (.t 16) (.t 18)⟩])
         (.cond (.t 19)
          .skip
          (.exit 0)))
        (.seq
         (.block 1
          (.seq
           (.seq
            (.reg [⟨some 22, none, .mov (.t 0)⟩,
             ⟨some 23, none, .mov (.t 5)⟩,
             ⟨some 24, none, .iaddr (.slice 1) (.t 22) (.t 23)⟩,
             ⟨some 25, none, .load 1 false (.t 24)⟩,
             ⟨some 26, none, .call false 11 [(.t 25)]⟩,
             ⟨some 27, none, .bin .neq (.t 26) (.c (.int .i64 0))⟩])
            (.cond (.t 27)
             (.seq
              (.reg [⟨some 4, none, .mov (.c (.int .i64 3))⟩])
              .ret)
             .skip))
           (.seq
            (.reg [⟨some 28, none, .mov (.t 0)⟩,
             ⟨some 29, none, .mov (.t 5)⟩,
             ⟨some 30, none, .slc (.slice 1) (.t 28) none (some (.t 29)) none⟩,
             ⟨some 31, none, .mov (.t 0)⟩,
             ⟨some 32, none, .mov (.t 5)⟩,
             ⟨some 33, none, .iaddr (.slice 1) (.t 31) (.t 32)⟩,
             ⟨some 34, none, .load 1 false (.t 33)⟩,
             ⟨some 35, none, .call false 30 [(.t 30), (.t 34)]⟩,
             ⟨some 36, none, .bin .geq (.t 35) (.c (.int .i64 0))⟩])
            (.cond (.t 36)
             (.seq
              (.reg [⟨some 4, none, .mov (.c (.int .i64 4))⟩])
              .ret)
             .skip))))
         (.reg [⟨some 20, none, .mov (.t 5)⟩,
          ⟨some 21, none, .bin .add (.t 20) (.c (.int .i64 1))⟩,
          ⟨some 5, none, .mov (.t 21)⟩])))
def c17r0 : AC := (.seq
     (.seq
      (.reg [⟨some 6, none, .mov (.c (.int .i64 0))⟩])
      (.block 2
       (.loop [0, 1, 6]
        c17b0)))
     (.seq
      (.reg [⟨some 4, none, .mov (.c (.int .i64 0))⟩])
      .ret))
/-- tracebook/tracebookref06.Check -/
def c17 : AFn := ⟨2, 78, [.t 4],
 (.seq
  (.reg [⟨some 4, none, .mov (.c (.int .i64 0))⟩])
  (.seq
   (.seq
    (.reg [⟨some 8, none, .mov (.t 0)⟩,
     ⟨some 9, none, .len (.t 8)⟩,
     ⟨some 10, none, .bin .gtr (.t 9) (.c (.int .i64 1000))⟩,
     ⟨some 11, none, .mov (.t 10)⟩,
     ⟨some 12, some (11, false), .mov (.t 1)⟩,
     ⟨some 13, some (11, false), .len (.t 12)⟩,
     ⟨some 14, some (11, false), .bin .gtr (.t 13) (.c (.int .i64 1000))⟩,
     ⟨some 15, none, .pick (.t 11) (.c (.bool true)) (.t 14)⟩])
    (.cond (.t 15)
     (.seq
      (.reg [⟨some 4, none, .mov (.c (.int .i64 7))⟩])
      .ret)
     .skip))
   (.seq
    (.seq
     (.reg [⟨some 5, none, .mov (.c (.int .i64 0))⟩])
     (.block 0
      (.loop [0, 1, 5]
       c17b1)))
    c17r0))), none⟩
def k17 : List (List Nat) := [[0, 1, 5], [0, 1, 6]]
def o17 : List Nat := [1000027]
def c18b0 : AC := (.seq
        (.seq
         (.reg [⟨some 11, none, .mov (.t 5)⟩,
          ⟨some 12, none, .mov (.t 0)⟩,
          ⟨some 13, none, .len (.t 12)⟩,
          ⟨some 14, none, .bin .lss (.t 11) (.t 13)⟩])
         (.cond (.t 14)
          .skip
          (.exit 0)))
        (.seq
         (.block 1
          (.seq
           (.reg [⟨some 17, none, .mov (.t 0)⟩,
            ⟨some 18, none, .mov (.t 5)⟩,
            ⟨some 19, none, .iaddr (.slice 1) (.t 17) (.t 18)⟩,
            ⟨some 20, none, .load 1 false (.t 19)⟩,
            ⟨some 21, none, .mov (.t 1)⟩,
            ⟨some 22, none, .mov (.t 5)⟩,
            ⟨some 23, none, .iaddr (.slice 1) (.t 21) (.t 22)⟩,
            ⟨some 24, none, .load 1 false (.t 23)⟩,
            ⟨some 25, none, .bin .neq (.t 20) (.t 24)⟩])
           (.cond (.t 25)
            (.seq
             (.reg [⟨some 4, none, .mov (.c (.bool false))⟩])
             .ret)
            .skip)))
         (.reg [⟨some 15, none, .mov (.t 5)⟩,
          ⟨some 16, none, .bin .add (.t 15) (.c (.int .i64 1))⟩,
          ⟨some 5, none, .mov (.t 16)⟩])))
/-- tracebook/tracebookref06.SameNames -/
def c18 : AFn := ⟨2, 26, [.t 4],
 (.seq
  (.reg [⟨some 4, none, .mov (.c (.bool false))⟩])
  (.seq
   (.seq
    (.reg [⟨some 6, none, .mov (.t 0)⟩,
     ⟨some 7, none, .len (.t 6)⟩,
     ⟨some 8, none, .mov (.t 1)⟩,
     ⟨some 9, none, .len (.t 8)⟩,
     ⟨some 10, none, .bin .neq (.t 7) (.t 9)⟩])
    (.cond (.t 10)
     (.seq
      (.reg [⟨some 4, none, .mov (.c (.bool false))⟩])
      .ret)
     .skip))
   (.seq
    (.seq
     (.reg [⟨some 5, none, .mov (.c (.int .i64 0))⟩])
     (.block 0
      (.loop [0, 1, 5]
       c18b0)))
    (.seq
     (.reg [⟨some 4, none, .mov (.c (.bool true))⟩])
     .ret)))), none⟩
def k18 : List (List Nat) := [[0, 1, 5]]
def o18 : List Nat := [1000027]
/-- tracebook/intern.Put -/
def c19 : AFn := ⟨2, 33, [.t 4, .t 5, .t 6],
 (.seq
  (.reg [⟨some 4, none, .mov (.c (.int .i64 0))⟩,
   ⟨some 5, none, .nilv 1⟩,
   ⟨some 6, none, .mov (.c (.int .i64 0))⟩])
  (.seq
   (.seq
    (.reg [⟨some 9, none, .mov (.t 1)⟩,
     ⟨some 10, none, .call false 10 [(.t 9)]⟩,
     ⟨some 7, none, .mov (.t 10)⟩])
    (.seq
     (.reg [⟨some 11, none, .mov (.t 7)⟩,
      ⟨some 12, none, .bin .neq (.t 11) (.c (.int .i64 0))⟩])
     (.cond (.t 12)
      (.seq
       (.reg [⟨some 13, none, .mov (.t 0)⟩,
        ⟨some 14, none, .mov (.t 7)⟩,
        ⟨some 4, none, .mov (.c (.int .i64 0))⟩,
        ⟨some 5, none, .mov (.t 13)⟩,
        ⟨some 6, none, .mov (.t 14)⟩])
       .ret)
      .skip)))
   (.seq
    (.seq
     (.reg [⟨some 15, none, .mov (.t 0)⟩,
      ⟨some 16, none, .mov (.t 1)⟩,
      ⟨some 17, none, .call false 33 [(.t 15), (.t 16)]⟩,
      ⟨some 8, none, .mov (.t 17)⟩])
     (.seq
      (.reg [⟨some 18, none, .mov (.t 8)⟩,
       ⟨some 19, none, .bin .geq (.t 18) (.c (.int .i64 0))⟩])
      (.cond (.t 19)
       (.seq
        (.reg [⟨some 20, none, .mov (.t 8)⟩,
         ⟨some 21, none, .mov (.t 0)⟩,
         ⟨some 4, none, .mov (.t 20)⟩,
         ⟨some 5, none, .mov (.t 21)⟩,
         ⟨some 6, none, .mov (.c (.int .i64 0))⟩])
        .ret)
       .skip)))
    (.seq
     (.seq
      (.reg [⟨some 22, none, .mov (.t 0)⟩,
       ⟨some 23, none, .len (.t 22)⟩,
       ⟨some 24, none, .bin .geq (.t 23) (.c (.int .i64 1000))⟩])
      (.cond (.t 24)
       (.seq
        (.reg [⟨some 25, none, .mov (.t 0)⟩,
         ⟨some 4, none, .mov (.c (.int .i64 0))⟩,
         ⟨some 5, none, .mov (.t 25)⟩,
         ⟨some 6, none, .mov (.c (.int .i64 6))⟩])
        .ret)
       .skip))
     (.seq
      (.reg [⟨some 26, none, .mov (.t 0)⟩,
       ⟨some 27, none, .len (.t 26)⟩,
       ⟨some 28, none, .mov (.t 0)⟩,
       ⟨some 29, none, .call true 34 [(.t 28)]⟩,
       ⟨some 30, none, .mov (.t 1)⟩,
       ⟨some 31, none, .bslice false 1 [(.str [])] 1 [(0, (.t 30))]⟩,
       ⟨some 32, none, .append 1 16 (.t 29) (.t 31)⟩,
       ⟨some 4, none, .mov (.t 27)⟩,
       ⟨some 5, none, .mov (.t 32)⟩,
       ⟨some 6, none, .mov (.c (.int .i64 0))⟩])
      .ret))))), none⟩
def k19 : List (List Nat) := []
def o19 : List Nat := [1000027, 29]
/-- tracebook/tracebookref06.Put -/
def c20 : AFn := ⟨2, 31, [.t 4, .t 5, .t 6],
 (.seq
  (.reg [⟨some 4, none, .mov (.c (.int .i64 0))⟩,
   ⟨some 5, none, .nilv 1⟩,
   ⟨some 6, none, .mov (.c (.int .i64 0))⟩])
  (.seq
   (.seq
    (.reg [⟨some 8, none, .mov (.t 1)⟩,
     ⟨some 9, none, .call false 11 [(.t 8)]⟩,
     ⟨some 10, none, .bin .neq (.t 9) (.c (.int .i64 0))⟩])
    (.cond (.t 10)
     (.seq
      (.reg [⟨some 11, none, .mov (.t 0)⟩,
       ⟨some 4, none, .mov (.c (.int .i64 0))⟩,
       ⟨some 5, none, .mov (.t 11)⟩,
       ⟨some 6, none, .mov (.c (.int .i64 3))⟩])
      .ret)
     .skip))
   (.seq
    (.reg [⟨some 12, none, .mov (.t 0)⟩,
     ⟨some 13, none, .mov (.t 1)⟩,
     ⟨some 14, none, .call false 30 [(.t 12), (.t 13)]⟩,
     ⟨some 7, none, .mov (.t 14)⟩])
    (.seq
     (.seq
      (.reg [⟨some 15, none, .mov (.t 7)⟩,
       ⟨some 16, none, .bin .geq (.t 15) (.c (.int .i64 0))⟩])
      (.cond (.t 16)
       (.seq
        (.reg [⟨some 17, none, .mov (.t 7)⟩,
         ⟨some 18, none, .mov (.t 0)⟩,
         ⟨some 4, none, .mov (.t 17)⟩,
         ⟨some 5, none, .mov (.t 18)⟩,
         ⟨some 6, none, .mov (.c (.int .i64 0))⟩])
        .ret)
       .skip))
     (.seq
      (.seq
       (.reg [⟨some 19, none, .mov (.t 0)⟩,
        ⟨some 20, none, .len (.t 19)⟩,
        ⟨some 21, none, .bin .geq (.t 20) (.c (.int .i64 1000))⟩])
       (.cond (.t 21)
        (.seq
         (.reg [⟨some 22, none, .mov (.t 0)⟩,
          ⟨some 4, none, .mov (.c (.int .i64 0))⟩,
          ⟨some 5, none, .mov (.t 22)⟩,
          ⟨some 6, none, .mov (.c (.int .i64 6))⟩])
         .ret)
        .skip))
      (.seq
       (.reg [⟨some 23, none, .mov (.t 0)⟩,
        ⟨some 24, none, .len (.t 23)⟩,
        ⟨some 25, none, .bslice true 1 [(.str [])] 0 []⟩,
        ⟨some 26, none, .mov (.t 0)⟩,
        ⟨some 27, none, .append 1 16 (.t 25) (.t 26)⟩,
        ⟨some 28, none, .mov (.t 1)⟩,
        ⟨some 29, none, .bslice false 1 [(.str [])] 1 [(0, (.t 28))]⟩,
        ⟨some 30, none, .append 1 16 (.t 27) (.t 29)⟩,
        ⟨some 4, none, .mov (.t 24)⟩,
        ⟨some 5, none, .mov (.t 30)⟩,
        ⟨some 6, none, .mov (.c (.int .i64 0))⟩])
       .ret)))))), none⟩
def k20 : List (List Nat) := []
def o20 : List Nat := [1000027, 25]
def c21b0 : AC := (.seq
          (.reg [⟨some 33, none, .bin .lss (.t 32) (.t 31)⟩])
          (.seq
           (.cond (.t 33)
            .skip
            (.exit 0))
           (.seq
            (.block 1
             (.seq
              (.reg [⟨some 34, none, .iaddr (.slice 1) (.t 30) (.t 32)⟩,
               ⟨some 35, none, .load 1 false (.t 34)⟩,
               ⟨some 15, none, .mov (.t 35)⟩])
              (.seq
               (.reg [⟨some 37, none, .mov (.t 11)⟩,
                ⟨some 38, none, .mov (.t 15)⟩,
                ⟨some 39, none, .call false 19 [(.t 37), (.t 38)]⟩,
                ⟨some 36, none, .mov (.t 39)⟩,
                ⟨some 40, none, .ext (.t 36) 0⟩,
                ⟨some 41, none, .ext (.t 36) 1⟩,
                ⟨some 42, none, .ext (.t 36) 2⟩,
                ⟨some 16, none, .mov (.t 40)⟩,
                ⟨some 17, none, .mov (.t 41)⟩,
                ⟨some 18, none, .mov (.t 42)⟩])
               (.seq
                (.seq
                 (.reg [⟨some 43, none, .mov (.t 18)⟩,
                  ⟨some 44, none, .bin .neq (.t 43) (.c (.int .i64 0))⟩])
                 (.cond (.t 44)
                  (.seq
                   (.reg [⟨some 45, none, .mov (.t 0)⟩,
                    ⟨some 46, none, .mov (.t 1)⟩,
                    ⟨some 47, none, .mov (.t 18)⟩,
                    ⟨some 6, none, .mov (.c (.int .i64 0))⟩,
                    ⟨some 7, none, .mov (.t 45)⟩,
                    ⟨some 8, none, .mov (.t 46)⟩,
                    ⟨some 9, none, .mov (.t 47)⟩])
                   .ret)
                  .skip))
                (.seq
                 (.reg [⟨some 48, none, .mov (.t 17)⟩,
                  ⟨some 11, none, .mov (.t 48)⟩])
                 (.seq
                  (.reg [⟨some 49, none, .mov (.t 13)⟩,
                   ⟨some 50, none, .mov (.t 16)⟩,
                   ⟨some 51, none, .build [(.int .i64 0), (.int .i64 0)] [(0, 1, (.t 49)), (1, 1, (.t 50))]⟩,
                   ⟨some 19, none, .alloc [(.int .i64 0), (.int .i64 0)]⟩,
                   ⟨none, none, .store 2 (.t 19) (.t 51)⟩])
                  (.seq
                   (.reg [⟨some 52, none, .mov (.t 12)⟩,
                    ⟨some 53, none, .load 2 true (.t 19)⟩,
                    ⟨some 54, none, .call false 36 [(.t 52), (.t 53)]⟩,
                    ⟨some 13, none, .mov (.t 54)⟩])
                   (.seq
                    (.seq
                     (.reg [⟨some 55, none, .mov (.t 13)⟩,
                      ⟨some 56, none, .bin .geq (.t 55) (.c (.int .i64 0))⟩])
                     (.cond (.t 56)
                      (.exit 1)
                      .skip))
                    (.seq
                     (.seq
                      (.reg [⟨some 57, none, .mov (.t 12)⟩,
                       ⟨some 58, none, .len (.t 57)⟩,
                       ⟨some 59, none, .bin .geq (.t 58) (.c (.int .i64 1000))⟩])
                      (.cond (.t 59)
                       (.seq
                        (.reg [⟨some 60, none, .mov (.t 0)⟩,
                         ⟨some 61, none, .mov (.t 1)⟩,
                         ⟨some 6, none, .mov (.c (.int .i64 0))⟩,
                         ⟨some 7, none, .mov (.t 60)⟩,
                         ⟨some 8, none, .mov (.t 61)⟩,
                         ⟨some 9, none, .mov (.c (.int .i64 6))⟩])
                        .ret)
                       .skip))
                     (.seq
                      (.reg [⟨some 62, none, .mov (.t 12)⟩,
                       ⟨some 63, none, .len (.t 62)⟩,
                       ⟨some 13, none, .mov (.t 63)⟩])
                      (.reg [⟨some 64, none, .mov (.t 12)⟩,
                       ⟨some 65, none, .load 2 true (.t 19)⟩,
                       ⟨some 66, none, .bslice false 2 [(.int .i64 0), (.int .i64 0)] 1 [(0, (.t 65))]⟩,
                       ⟨some 67, none, .append 2 16 (.t 64) (.t 66)⟩,
                       ⟨some 12, none, .mov (.t 67)⟩])))))))))))
            (.reg [⟨some 68, none, .bin .add (.t 32) (.c (.int .i64 1))⟩,
             ⟨some 32, none, .mov (.t 68)⟩]))))
/-- tracebook/intern.PutStack -/
def c21 : AFn := ⟨3, 72, [.t 6, .t 7, .t 8, .t 9],
 (.seq
  (.reg [⟨some 6, none, .mov (.c (.int .i64 0))⟩,
   ⟨some 7, none, .nilv 1⟩,
   ⟨some 8, none, .nilv 2⟩,
   ⟨some 9, none, .mov (.c (.int .i64 0))⟩])
  (.seq
   (.seq
    (.reg [⟨some 20, none, .mov (.t 2)⟩,
     ⟨some 21, none, .call false 14 [(.t 20)]⟩,
     ⟨some 10, none, .mov (.t 21)⟩])
    (.seq
     (.reg [⟨some 22, none, .mov (.t 10)⟩,
      ⟨some 23, none, .bin .neq (.t 22) (.c (.int .i64 0))⟩])
     (.cond (.t 23)
      (.seq
       (.reg [⟨some 24, none, .mov (.t 0)⟩,
        ⟨some 25, none, .mov (.t 1)⟩,
        ⟨some 26, none, .mov (.t 10)⟩,
        ⟨some 6, none, .mov (.c (.int .i64 0))⟩,
        ⟨some 7, none, .mov (.t 24)⟩,
        ⟨some 8, none, .mov (.t 25)⟩,
        ⟨some 9, none, .mov (.t 26)⟩])
       .ret)
      .skip)))
   (.seq
    (.reg [⟨some 27, none, .mov (.t 0)⟩,
     ⟨some 28, none, .mov (.t 1)⟩,
     ⟨some 29, none, .call true 35 [(.t 28)]⟩,
     ⟨some 11, none, .mov (.t 27)⟩,
     ⟨some 12, none, .mov (.t 29)⟩])
    (.seq
     (.reg [⟨some 13, none, .mov (.c (.int .i64 (-1)))⟩])
     (.seq
      (.seq
       (.reg [⟨some 30, none, .mov (.t 2)⟩,
        ⟨some 31, none, .len (.t 30)⟩,
        ⟨some 32, none, .mov (.c (.int .i64 0))⟩])
       (.block 0
        (.loop [0, 1, 11, 12, 13, 30, 31, 32]
         c21b0)))
      (.seq
       (.reg [⟨some 69, none, .mov (.t 13)⟩,
        ⟨some 70, none, .mov (.t 11)⟩,
        ⟨some 71, none, .mov (.t 12)⟩,
        ⟨some 6, none, .mov (.t 69)⟩,
        ⟨some 7, none, .mov (.t 70)⟩,
        ⟨some 8, none, .mov (.t 71)⟩,
        ⟨some 9, none, .mov (.c (.int .i64 0))⟩])
       .ret)))))), none⟩
def k21 : List (List Nat) := [[0, 1, 11, 12, 13, 30, 31, 32]]
def o21 : List Nat := [1000027, 29]
def c22b0 : AC := (.seq
            (.seq
             (.reg [⟨some 30, none, .mov (.t 14)⟩,
              ⟨some 31, none, .mov (.t 2)⟩,
              ⟨some 32, none, .len (.t 31)⟩,
              ⟨some 33, none, .bin .lss (.t 30) (.t 32)⟩])
             (.cond (.t 33)
              .skip
              (.exit 0)))
            (.seq
             (.block 1
              (.seq
               (.reg [⟨some 37, none, .mov (.t 12)⟩,
                ⟨some 38, none, .mov (.t 2)⟩,
                ⟨some 39, none, .mov (.t 14)⟩,
                ⟨some 40, none, .iaddr (.slice 1) (.t 38) (.t 39)⟩,
                ⟨some 41, none, .load 1 false (.t 40)⟩,
                ⟨some 42, none, .call false 20 [(.t 37), (.t 41)]⟩,
                ⟨some 36, none, .mov (.t 42)⟩,
                ⟨some 43, none, .ext (.t 36) 0⟩,
                ⟨some 44, none, .ext (.t 36) 1⟩,
                ⟨some 45, none, .ext (.t 36) 2⟩,
                ⟨some 15, none, .mov (.t 43)⟩,
                ⟨some 16, none, .mov (.t 44)⟩,
                ⟨some 17, none, .mov (.t 45)⟩])
               (.seq
                (.seq
                 (.reg [⟨some 46, none, .mov (.t 17)⟩,
                  ⟨some 47, none, .bin .neq (.t 46) (.c (.int .i64 0))⟩])
                 (.cond (.t 47)
                  (.seq
                   (.reg [⟨some 48, none, .mov (.t 0)⟩,
                    ⟨some 49, none, .mov (.t 1)⟩,
                    ⟨some 50, none, .mov (.t 17)⟩,
                    ⟨some 6, none, .mov (.c (.int .i64 0))⟩,
                    ⟨some 7, none, .mov (.t 48)⟩,
                    ⟨some 8, none, .mov (.t 49)⟩,
                    ⟨some 9, none, .mov (.t 50)⟩])
                   .ret)
                  .skip))
                (.seq
                 (.reg [⟨some 51, none, .mov (.t 16)⟩,
                  ⟨some 12, none, .mov (.t 51)⟩])
                 (.seq
                  (.reg [⟨some 52, none, .mov (.t 11)⟩,
                   ⟨some 53, none, .mov (.t 15)⟩,
                   ⟨some 54, none, .build [(.int .i64 0), (.int .i64 0)] [(0, 1, (.t 52)), (1, 1, (.t 53))]⟩,
                   ⟨some 18, none, .alloc [(.int .i64 0), (.int .i64 0)]⟩,
                   ⟨none, none, .store 2 (.t 18) (.t 54)⟩])
                  (.seq
                   (.reg [⟨some 55, none, .mov (.t 13)⟩,
                    ⟨some 56, none, .load 2 true (.t 18)⟩,
                    ⟨some 57, none, .call false 31 [(.t 55), (.t 56)]⟩,
                    ⟨some 11, none, .mov (.t 57)⟩])
                   (.seq
                    (.seq
                     (.reg [⟨some 58, none, .mov (.t 11)⟩,
                      ⟨some 59, none, .bin .geq (.t 58) (.c (.int .i64 0))⟩])
                     (.cond (.t 59)
                      (.exit 1)
                      .skip))
                    (.seq
                     (.seq
                      (.reg [⟨some 60, none, .mov (.t 13)⟩,
                       ⟨some 61, none, .len (.t 60)⟩,
                       ⟨some 62, none, .bin .geq (.t 61) (.c (.int .i64 1000))⟩])
                      (.cond (.t 62)
                       (.seq
                        (.reg [⟨some 63, none, .mov (.t 0)⟩,
                         ⟨some 64, none, .mov (.t 1)⟩,
                         ⟨some 6, none, .mov (.c (.int .i64 0))⟩,
                         ⟨some 7, none, .mov (.t 63)⟩,
                         ⟨some 8, none, .mov (.t 64)⟩,
                         ⟨some 9, none, .mov (.c (.int .i64 6))⟩])
                        .ret)
                       .skip))
                     (.seq
                      (.reg [⟨some 65, none, .mov (.t 13)⟩,
                       ⟨some 66, none, .len (.t 65)⟩,
                       ⟨some 11, none, .mov (.t 66)⟩])
                      (.reg [⟨some 67, none, .mov (.t 13)⟩,
                       ⟨some 68, none, .load 2 true (.t 18)⟩,
                       ⟨some 69, none, .bslice false 2 [(.int .i64 0), (.int .i64 0)] 1 [(0, (.t 68))]⟩,
                       ⟨some 70, none, .append 2 16 (.t 67) (.t 69)⟩,
                       ⟨some 13, none, .mov (.t 70)⟩]))))))))))
             (.reg [⟨some 34, none, .mov (.t 14)⟩,
              ⟨some 35, none, .bin .add (.t 34) (.c (.int .i64 1))⟩,
              ⟨some 14, none, .mov (.t 35)⟩])))
/-- tracebook/tracebookref06.PutStack -/
def c22 : AFn := ⟨3, 74, [.t 6, .t 7, .t 8, .t 9],
 (.seq
  (.reg [⟨some 6, none, .mov (.c (.int .i64 0))⟩,
   ⟨some 7, none, .nilv 1⟩,
   ⟨some 8, none, .nilv 2⟩,
   ⟨some 9, none, .mov (.c (.int .i64 0))⟩])
  (.seq
   (.reg [⟨some 19, none, .mov (.t 2)⟩,
    ⟨some 20, none, .call false 15 [(.t 19)]⟩,
    ⟨some 10, none, .mov (.t 20)⟩])
   (.seq
    (.seq
     (.reg [⟨some 21, none, .mov (.t 10)⟩,
      ⟨some 22, none, .bin .neq (.t 21) (.c (.int .i64 0))⟩])
     (.cond (.t 22)
      (.seq
       (.reg [⟨some 23, none, .mov (.t 0)⟩,
        ⟨some 24, none, .mov (.t 1)⟩,
        ⟨some 25, none, .mov (.t 10)⟩,
        ⟨some 6, none, .mov (.c (.int .i64 0))⟩,
        ⟨some 7, none, .mov (.t 23)⟩,
        ⟨some 8, none, .mov (.t 24)⟩,
        ⟨some 9, none, .mov (.t 25)⟩])
       .ret)
      .skip))
    (.seq
     (.reg [⟨some 11, none, .mov (.c (.int .i64 (-1)))⟩])
     (.seq
      (.reg [⟨some 26, none, .mov (.t 0)⟩,
       ⟨some 12, none, .mov (.t 26)⟩])
      (.seq
       (.reg [⟨some 27, none, .bslice true 2 [(.int .i64 0), (.int .i64 0)] 0 []⟩,
        ⟨some 28, none, .mov (.t 1)⟩,
        ⟨some 29, none, .append 2 16 (.t 27) (.t 28)⟩,
        ⟨some 13, none, .mov (.t 29)⟩])
       (.seq
        (.seq
         (.reg [⟨some 14, none, .mov (.c (.int .i64 0))⟩])
         (.block 0
          (.loop [0, 1, 2, 11, 12, 13, 14]
           c22b0)))
        (.seq
         (.reg [⟨some 71, none, .mov (.t 11)⟩,
          ⟨some 72, none, .mov (.t 12)⟩,
          ⟨some 73, none, .mov (.t 13)⟩,
          ⟨some 6, none, .mov (.t 71)⟩,
          ⟨some 7, none, .mov (.t 72)⟩,
          ⟨some 8, none, .mov (.t 73)⟩,
          ⟨some 9, none, .mov (.c (.int .i64 0))⟩])
         .ret)))))))), none⟩
def k22 : List (List Nat) := [[0, 1, 2, 11, 12, 13, 14]]
def o22 : List Nat := [1000027, 27]
def c23b0 : AC := (.seq
        (.seq
         (.reg [⟨some 11, none, .mov (.t 5)⟩,
          ⟨some 12, none, .mov (.t 0)⟩,
          ⟨some 13, none, .len (.t 12)⟩,
          ⟨some 14, none, .bin .lss (.t 11) (.t 13)⟩])
         (.cond (.t 14)
          .skip
          (.exit 0)))
        (.seq
         (.block 1
          (.seq
           (.reg [⟨some 17, none, .mov (.t 0)⟩,
            ⟨some 18, none, .mov (.t 5)⟩,
            ⟨some 19, none, .iaddr (.slice 2) (.t 17) (.t 18)⟩,
            ⟨some 20, none, .load 2 true (.t 19)⟩,
            ⟨some 21, none, .mov (.t 1)⟩,
            ⟨some 22, none, .mov (.t 5)⟩,
            ⟨some 23, none, .iaddr (.slice 2) (.t 21) (.t 22)⟩,
            ⟨some 24, none, .load 2 true (.t 23)⟩,
            ⟨some 25, none, .beqA true [.i, .i] (.t 20) (.t 24)⟩])
           (.cond (.t 25)
            (.seq
             (.reg [⟨some 4, none, .mov (.c (.bool false))⟩])
             .ret)
            .skip)))
         (.reg [⟨some 15, none, .mov (.t 5)⟩,
          ⟨some 16, none, .bin .add (.t 15) (.c (.int .i64 1))⟩,
          ⟨some 5, none, .mov (.t 16)⟩])))
/-- tracebook/tracebookref06.SameStacks -/
def c23 : AFn := ⟨2, 26, [.t 4],
 (.seq
  (.reg [⟨some 4, none, .mov (.c (.bool false))⟩])
  (.seq
   (.seq
    (.reg [⟨some 6, none, .mov (.t 0)⟩,
     ⟨some 7, none, .len (.t 6)⟩,
     ⟨some 8, none, .mov (.t 1)⟩,
     ⟨some 9, none, .len (.t 8)⟩,
     ⟨some 10, none, .bin .neq (.t 7) (.t 9)⟩])
    (.cond (.t 10)
     (.seq
      (.reg [⟨some 4, none, .mov (.c (.bool false))⟩])
      .ret)
     .skip))
   (.seq
    (.seq
     (.reg [⟨some 5, none, .mov (.c (.int .i64 0))⟩])
     (.block 0
      (.loop [0, 1, 5]
       c23b0)))
    (.seq
     (.reg [⟨some 4, none, .mov (.c (.bool true))⟩])
     .ret)))), none⟩
def k23 : List (List Nat) := [[0, 1, 5]]
def o23 : List Nat := [1000027]
def c24b0 : AC := (.seq
       (.seq
        (.reg [⟨some 4, none, .mov (.t 0)⟩,
         ⟨some 5, none, .bin .geq (.t 4) (.c (.int .i64 10))⟩])
        (.cond (.t 5)
         .skip
         (.exit 0)))
       (.block 1
        (.seq
         (.reg [⟨some 6, none, .mov (.t 0)⟩,
          ⟨some 7, none, .bin .rem (.t 6) (.c (.int .i64 10))⟩,
          ⟨some 8, none, .bin .add (.c (.int .i64 48)) (.t 7)⟩,
          ⟨some 9, none, .conv (.int .u8) (.t 8)⟩,
          ⟨some 10, none, .bslice false 1 [(.int .u8 0)] 1 [(0, (.t 9))]⟩,
          ⟨some 11, none, .conv .toStr (.t 10)⟩,
          ⟨some 12, none, .mov (.t 3)⟩,
          ⟨some 13, none, .bin .add (.t 11) (.t 12)⟩,
          ⟨some 3, none, .mov (.t 13)⟩])
         (.reg [⟨some 14, none, .mov (.t 0)⟩,
          ⟨some 15, none, .bin .quo (.t 14) (.c (.int .i64 10))⟩,
          ⟨some 0, none, .mov (.t 15)⟩]))))
/-- tracebook/tracebooklaw06.word -/
def c24 : AFn := ⟨1, 24, [.t 2],
 (.seq
  (.reg [⟨some 2, none, .mov (.c (.str []))⟩])
  (.seq
   (.reg [⟨some 3, none, .mov (.c (.str []))⟩])
   (.seq
    (.block 0
     (.loop [0, 3]
      c24b0))
    (.seq
     (.reg [⟨some 16, none, .mov (.t 0)⟩,
      ⟨some 17, none, .bin .add (.c (.int .i64 48)) (.t 16)⟩,
      ⟨some 18, none, .conv (.int .u8) (.t 17)⟩,
      ⟨some 19, none, .bslice false 1 [(.int .u8 0)] 1 [(0, (.t 18))]⟩,
      ⟨some 20, none, .conv .toStr (.t 19)⟩,
      ⟨some 21, none, .bin .add (.c (.str [119])) (.t 20)⟩,
      ⟨some 22, none, .mov (.t 3)⟩,
      ⟨some 23, none, .bin .add (.t 21) (.t 22)⟩,
      ⟨some 2, none, .mov (.t 23)⟩])
     .ret)))), none⟩
def k24 : List (List Nat) := [[0, 3]]
def o24 : List Nat := [1000027]
/-- tracebook/intern.isNameByte -/
def c25 : AFn := ⟨1, 34, [.t 2],
 (.seq
  (.reg [⟨some 2, none, .mov (.c (.bool false))⟩])
  (.seq
   (.block 0
    (.seq
     (.seq
      (.reg [⟨some 4, none, .mov (.t 0)⟩,
       ⟨some 5, none, .bin .leq (.c (.int .u8 97)) (.t 4)⟩,
       ⟨some 6, none, .mov (.t 5)⟩,
       ⟨some 7, some (6, true), .mov (.t 0)⟩,
       ⟨some 8, some (6, true), .bin .leq (.t 7) (.c (.int .u8 122))⟩,
       ⟨some 9, none, .pick (.t 6) (.t 8) (.c (.bool false))⟩,
       ⟨some 3, none, .mov (.t 9)⟩])
      (.cond (.t 3)
       .skip
       (.seq
        (.reg [⟨some 10, none, .mov (.t 0)⟩,
         ⟨some 11, none, .bin .leq (.c (.int .u8 65)) (.t 10)⟩,
         ⟨some 12, none, .mov (.t 11)⟩,
         ⟨some 13, some (12, true), .mov (.t 0)⟩,
         ⟨some 14, some (12, true), .bin .leq (.t 13) (.c (.int .u8 90))⟩,
         ⟨some 15, none, .pick (.t 12) (.t 14) (.c (.bool false))⟩,
         ⟨some 3, none, .mov (.t 15)⟩])
        (.cond (.t 3)
         .skip
         (.reg [⟨some 16, none, .mov (.t 0)⟩,
          ⟨some 17, none, .bin .leq (.c (.int .u8 48)) (.t 16)⟩,
          ⟨some 18, none, .mov (.t 17)⟩,
          ⟨some 19, some (18, true), .mov (.t 0)⟩,
          ⟨some 20, some (18, true), .bin .leq (.t 19) (.c (.int .u8 57))⟩,
          ⟨some 21, none, .pick (.t 18) (.t 20) (.c (.bool false))⟩,
          ⟨some 3, none, .mov (.t 21)⟩])))))
     (.cond (.t 3)
      (.seq
       (.reg [⟨some 2, none, .mov (.c (.bool true))⟩])
       .ret)
      .skip)))
   (.seq
    (.seq
     (.reg [⟨some 22, none, .mov (.t 0)⟩])
     (.block 1
      (.seq
       (.seq
        (.reg [⟨some 24, none, .bin .eql (.t 22) (.c (.int .u8 95))⟩,
         ⟨some 23, none, .mov (.t 24)⟩])
        (.cond (.t 23)
         .skip
         (.seq
          (.reg [⟨some 25, none, .bin .eql (.t 22) (.c (.int .u8 46))⟩,
           ⟨some 23, none, .mov (.t 25)⟩])
          (.cond (.t 23)
           .skip
           (.seq
            (.reg [⟨some 26, none, .bin .eql (.t 22) (.c (.int .u8 58))⟩,
             ⟨some 23, none, .mov (.t 26)⟩])
            (.cond (.t 23)
             .skip
             (.seq
              (.reg [⟨some 27, none, .bin .eql (.t 22) (.c (.int .u8 47))⟩,
               ⟨some 23, none, .mov (.t 27)⟩])
              (.cond (.t 23)
               .skip
               (.seq
                (.reg [⟨some 28, none, .bin .eql (.t 22) (.c (.int .u8 60))⟩,
                 ⟨some 23, none, .mov (.t 28)⟩])
                (.cond (.t 23)
                 .skip
                 (.seq
                  (.reg [⟨some 29, none, .bin .eql (.t 22) (.c (.int .u8 62))⟩,
                   ⟨some 23, none, .mov (.t 29)⟩])
                  (.cond (.t 23)
                   .skip
                   (.seq
                    (.reg [⟨some 30, none, .bin .eql (.t 22) (.c (.int .u8 36))⟩,
                     ⟨some 23, none, .mov (.t 30)⟩])
                    (.cond (.t 23)
                     .skip
                     (.seq
                      (.reg [⟨some 31, none, .bin .eql (.t 22) (.c (.int .u8 42))⟩,
                       ⟨some 23, none, .mov (.t 31)⟩])
                      (.cond (.t 23)
                       .skip
                       (.seq
                        (.reg [⟨some 32, none, .bin .eql (.t 22) (.c (.int .u8 126))⟩,
                         ⟨some 23, none, .mov (.t 32)⟩])
                        (.cond (.t 23)
                         .skip
                         (.reg [⟨some 33, none, .bin .eql (.t 22) (.c (.int .u8 45))⟩,
                          ⟨some 23, none, .mov (.t 33)⟩])))))))))))))))))))
       (.cond (.t 23)
        (.seq
         (.reg [⟨some 2, none, .mov (.c (.bool true))⟩])
         .ret)
        .skip))))
    (.seq
     (.reg [⟨some 2, none, .mov (.c (.bool false))⟩])
     .ret)))), none⟩
def k25 : List (List Nat) := []
def o25 : List Nat := [1000027]
def c26b0 : AC := (.seq
         (.seq
          (.reg [⟨some 27, none, .mov (.t 4)⟩,
           ⟨some 28, none, .mov (.t 3)⟩,
           ⟨some 29, none, .lenS (.t 28)⟩,
           ⟨some 30, none, .bin .lss (.t 27) (.t 29)⟩])
          (.cond (.t 30)
           .skip
           (.exit 0)))
         (.seq
          (.block 1
           (.seq
            (.reg [⟨some 33, none, .mov (.t 3)⟩,
             ⟨some 34, none, .mov (.t 4)⟩,
             ⟨some 35, none, .idxS (.t 33) (.t 34)⟩,
             ⟨some 36, none, .mov (.t 0)⟩,
             ⟨some 37, none, .bin .eql (.t 35) (.t 36)⟩])
            (.cond (.t 37)
             (.seq
              (.reg [⟨some 2, none, .mov (.c (.bool true))⟩])
              .ret)
             .skip)))
          (.reg [⟨some 31, none, .mov (.t 4)⟩,
           ⟨some 32, none, .bin .add (.t 31) (.c (.int .i64 1))⟩,
           ⟨some 4, none, .mov (.t 32)⟩])))
/-- tracebook/tracebookref06.letter -/
def c26 : AFn := ⟨1, 38, [.t 2],
 (.seq
  (.reg [⟨some 2, none, .mov (.c (.bool false))⟩])
  (.seq
   (.seq
    (.reg [⟨some 5, none, .mov (.t 0)⟩,
     ⟨some 6, none, .bin .geq (.t 5) (.c (.int .u8 97))⟩,
     ⟨some 7, none, .mov (.t 6)⟩,
     ⟨some 8, some (7, true), .mov (.t 0)⟩,
     ⟨some 9, some (7, true), .bin .leq (.t 8) (.c (.int .u8 122))⟩,
     ⟨some 10, none, .pick (.t 7) (.t 9) (.c (.bool false))⟩,
     ⟨some 11, none, .mov (.t 10)⟩,
     ⟨some 12, some (11, false), .mov (.t 0)⟩,
     ⟨some 13, some (11, false), .bin .geq (.t 12) (.c (.int .u8 65))⟩,
     ⟨some 14, some (11, false), .mov (.t 13)⟩,
     ⟨some 15, some (14, true), .mov (.t 0)⟩,
     ⟨some 16, some (14, true), .bin .leq (.t 15) (.c (.int .u8 90))⟩,
     ⟨some 17, some (11, false), .pick (.t 14) (.t 16) (.c (.bool false))⟩,
     ⟨some 18, none, .pick (.t 11) (.c (.bool true)) (.t 17)⟩,
     ⟨some 19, none, .mov (.t 18)⟩,
     ⟨some 20, some (19, false), .mov (.t 0)⟩,
     ⟨some 21, some (19, false), .bin .geq (.t 20) (.c (.int .u8 48))⟩,
     ⟨some 22, some (19, false), .mov (.t 21)⟩,
     ⟨some 23, some (22, true), .mov (.t 0)⟩,
     ⟨some 24, some (22, true), .bin .leq (.t 23) (.c (.int .u8 57))⟩,
     ⟨some 25, some (19, false), .pick (.t 22) (.t 24) (.c (.bool false))⟩,
     ⟨some 26, none, .pick (.t 19) (.c (.bool true)) (.t 25)⟩])
    (.cond (.t 26)
     (.seq
      (.reg [⟨some 2, none, .mov (.c (.bool true))⟩])
      .ret)
     .skip))
   (.seq
    (.reg [⟨some 3, none, .mov (.c (.str [95, 46, 58, 47, 60, 62, 36, 42, 126, 45]))⟩])
    (.seq
     (.seq
      (.reg [⟨some 4, none, .mov (.c (.int .i64 0))⟩])
      (.block 0
       (.loop [0, 3, 4]
        c26b0)))
     (.seq
      (.reg [⟨some 2, none, .mov (.c (.bool false))⟩])
      .ret))))), none⟩
def k26 : List (List Nat) := [[0, 3, 4]]
def o26 : List Nat := [1000027]
def c27b0 : AC := (.seq
     (.seq
      (.reg [⟨some 7, none, .mov (.t 2)⟩,
       ⟨some 8, none, .mov (.t 3)⟩,
       ⟨some 9, none, .bin .lss (.t 7) (.t 8)⟩])
      (.cond (.t 9)
       .skip
       (.exit 0)))
     (.seq
      (.block 1
       (.reg [⟨some 14, none, .mov (.t 0)⟩,
        ⟨some 15, none, .mov (.t 2)⟩,
        ⟨some 16, none, .mov (.t 0)⟩,
        ⟨some 17, none, .mov (.t 3)⟩,
        ⟨some 18, none, .mov (.t 0)⟩,
        ⟨some 19, none, .mov (.t 3)⟩,
        ⟨some 20, none, .iaddr (.slice 1) (.t 18) (.t 19)⟩,
        ⟨some 21, none, .load 1 false (.t 20)⟩,
        ⟨some 22, none, .mov (.t 0)⟩,
        ⟨some 23, none, .mov (.t 2)⟩,
        ⟨some 24, none, .iaddr (.slice 1) (.t 22) (.t 23)⟩,
        ⟨some 25, none, .load 1 false (.t 24)⟩,
        ⟨some 26, none, .iaddr (.slice 1) (.t 14) (.t 15)⟩,
        ⟨none, none, .store 1 (.t 26) (.t 21)⟩,
        ⟨some 27, none, .iaddr (.slice 1) (.t 16) (.t 17)⟩,
        ⟨none, none, .store 1 (.t 27) (.t 25)⟩]))
      (.reg [⟨some 10, none, .mov (.t 2)⟩,
       ⟨some 11, none, .bin .add (.t 10) (.c (.int .i64 1))⟩,
       ⟨some 12, none, .mov (.t 3)⟩,
       ⟨some 13, none, .bin .sub (.t 12) (.c (.int .i64 1))⟩,
       ⟨some 2, none, .mov (.t 11)⟩,
       ⟨some 3, none, .mov (.t 13)⟩])))
/-- slices.Reverse[[]string,string] -/
def c27 : AFn := ⟨1, 28, [],
 (.seq
  (.reg [⟨some 4, none, .mov (.t 0)⟩,
   ⟨some 5, none, .len (.t 4)⟩,
   ⟨some 6, none, .bin .sub (.t 5) (.c (.int .i64 1))⟩,
   ⟨some 2, none, .mov (.c (.int .i64 0))⟩,
   ⟨some 3, none, .mov (.t 6)⟩])
  (.block 0
   (.loop [0, 2, 3]
    c27b0))), none⟩
def k27 : List (List Nat) := [[0, 2, 3]]
def o27 : List Nat := [1000027]
def c28b0 : AC := (.seq
        (.reg [⟨some 13, none, .bin .lss (.t 12) (.t 11)⟩])
        (.seq
         (.cond (.t 13)
          .skip
          (.exit 0))
         (.seq
          (.block 1
           (.seq
            (.reg [⟨some 14, none, .iaddr (.slice 1) (.t 10) (.t 12)⟩,
             ⟨some 15, none, .load 1 false (.t 14)⟩,
             ⟨some 5, none, .mov (.t 15)⟩])
            (.seq
             (.seq
              (.reg [⟨some 16, none, .mov (.t 5)⟩,
               ⟨some 17, none, .call false 10 [(.t 16)]⟩,
               ⟨some 6, none, .mov (.t 17)⟩])
              (.seq
               (.reg [⟨some 18, none, .mov (.t 6)⟩,
                ⟨some 19, none, .bin .neq (.t 18) (.c (.int .i64 0))⟩])
               (.cond (.t 19)
                (.seq
                 (.reg [⟨some 20, none, .mov (.t 6)⟩,
                  ⟨some 2, none, .mov (.t 20)⟩])
                 .ret)
                .skip)))
             (.seq
              (.seq
               (.reg [⟨some 21, none, .mov (.t 3)⟩,
                ⟨some 22, none, .mov (.t 5)⟩,
                ⟨some 23, none, .mget false [.s] false (.bool false) (.t 21) (.t 22)⟩])
               (.cond (.t 23)
                (.seq
                 (.reg [⟨some 2, none, .mov (.c (.int .i64 4))⟩])
                 .ret)
                .skip))
              (.reg [⟨some 24, none, .mov (.t 3)⟩,
               ⟨some 25, none, .mov (.t 5)⟩,
               ⟨none, none, .mset [.s] false (.t 24) (.t 25) (.c (.bool true))⟩])))))
          (.reg [⟨some 26, none, .bin .add (.t 12) (.c (.int .i64 1))⟩,
           ⟨some 12, none, .mov (.t 26)⟩]))))
/-- tracebook/intern.checkNames -/
def c28 : AFn := ⟨1, 27, [.t 2],
 (.seq
  (.reg [⟨some 2, none, .mov (.c (.int .i64 0))⟩])
  (.seq
   (.reg [⟨some 7, none, .mov (.t 0)⟩,
    ⟨some 8, none, .len (.t 7)⟩,
    ⟨some 9, none, .mkmap (some (.t 8))⟩,
    ⟨some 3, none, .mov (.t 9)⟩])
   (.seq
    (.seq
     (.reg [⟨some 10, none, .mov (.t 0)⟩,
      ⟨some 11, none, .len (.t 10)⟩,
      ⟨some 12, none, .mov (.c (.int .i64 0))⟩])
     (.block 0
      (.loop [3, 10, 11, 12]
       c28b0)))
    (.seq
     (.reg [⟨some 2, none, .mov (.c (.int .i64 0))⟩])
     .ret)))), none⟩
def k28 : List (List Nat) := [[3, 10, 11, 12]]
def o28 : List Nat := [1000027]
def c29b0 : AC := (.seq
         (.reg [⟨some 20, none, .bin .lss (.t 19) (.t 18)⟩])
         (.seq
          (.cond (.t 20)
           .skip
           (.exit 0))
          (.seq
           (.block 1
            (.seq
             (.reg [⟨some 21, none, .mov (.t 19)⟩,
              ⟨some 22, none, .iaddr (.slice 2) (.t 17) (.t 19)⟩,
              ⟨some 23, none, .load 2 true (.t 22)⟩,
              ⟨some 8, none, .alloc [(.int .i64 0), (.int .i64 0)]⟩,
              ⟨some 7, none, .mov (.t 21)⟩,
              ⟨none, none, .store 2 (.t 8) (.t 23)⟩])
             (.seq
              (.reg [⟨some 24, none, .iaddr (.array 2 1) (.t 8) (.c (.int .i64 0))⟩,
               ⟨some 25, none, .load 1 false (.t 24)⟩,
               ⟨some 26, none, .iaddr (.array 2 1) (.t 8) (.c (.int .i64 1))⟩,
               ⟨some 27, none, .load 1 false (.t 26)⟩,
               ⟨some 9, none, .mov (.t 25)⟩,
               ⟨some 10, none, .mov (.t 27)⟩])
              (.seq
               (.seq
                (.reg [⟨some 28, none, .mov (.t 9)⟩,
                 ⟨some 29, none, .bin .lss (.t 28) (.c (.int .i64 (-1)))⟩,
                 ⟨some 30, none, .mov (.t 29)⟩,
                 ⟨some 31, some (30, false), .mov (.t 9)⟩,
                 ⟨some 32, some (30, false), .mov (.t 7)⟩,
                 ⟨some 33, some (30, false), .bin .geq (.t 31) (.t 32)⟩,
                 ⟨some 34, none, .pick (.t 30) (.c (.bool true)) (.t 33)⟩,
                 ⟨some 35, none, .mov (.t 34)⟩,
                 ⟨some 36, some (35, false), .mov (.t 10)⟩,
                 ⟨some 37, some (35, false), .bin .lss (.t 36) (.c (.int .i64 0))⟩,
                 ⟨some 38, none, .pick (.t 35) (.c (.bool true)) (.t 37)⟩,
                 ⟨some 39, none, .mov (.t 38)⟩,
                 ⟨some 40, some (39, false), .mov (.t 10)⟩,
                 ⟨some 41, some (39, false), .mov (.t 0)⟩,
                 ⟨some 42, some (39, false), .bin .geq (.t 40) (.t 41)⟩,
                 ⟨some 43, none, .pick (.t 39) (.c (.bool true)) (.t 42)⟩])
                (.cond (.t 43)
                 (.seq
                  (.reg [⟨some 4, none, .mov (.c (.int .i64 2))⟩])
                  .ret)
                 .skip))
               (.seq
                (.seq
                 (.reg [⟨some 44, none, .mov (.t 5)⟩,
                  ⟨some 45, none, .load 2 true (.t 8)⟩,
                  ⟨some 46, none, .mget false [.i, .i] true (.bool false) (.t 44) (.t 45)⟩])
                 (.cond (.t 46)
                  (.seq
                   (.reg [⟨some 4, none, .mov (.c (.int .i64 4))⟩])
                   .ret)
                  .skip))
                (.seq
                 (.reg [⟨some 47, none, .mov (.t 5)⟩,
                  ⟨some 48, none, .load 2 true (.t 8)⟩,
                  ⟨none, none, .mset [.i, .i] true (.t 47) (.t 48) (.c (.bool true))⟩])
                 (.seq
                  (.reg [⟨some 49, none, .mov (.t 6)⟩,
                   ⟨some 50, none, .mov (.t 7)⟩,
                   ⟨some 51, none, .iaddr (.slice 1) (.t 49) (.t 50)⟩,
                   ⟨none, none, .store 1 (.t 51) (.c (.int .i64 1))⟩])
                  (.seq
                   (.seq
                    (.reg [⟨some 52, none, .mov (.t 9)⟩,
                     ⟨some 53, none, .bin .geq (.t 52) (.c (.int .i64 0))⟩])
                    (.cond (.t 53)
                     (.reg [⟨some 54, none, .mov (.t 6)⟩,
                      ⟨some 55, none, .mov (.t 7)⟩,
                      ⟨some 56, none, .iaddr (.slice 1) (.t 54) (.t 55)⟩,
                      ⟨some 57, none, .load 1 false (.t 56)⟩,
                      ⟨some 58, none, .mov (.t 6)⟩,
                      ⟨some 59, none, .mov (.t 9)⟩,
                      ⟨some 60, none, .iaddr (.slice 1) (.t 58) (.t 59)⟩,
                      ⟨some 61, none, .load 1 false (.t 60)⟩,
                      ⟨some 62, none, .bin .add (.t 57) (.t 61)⟩,
                      ⟨some 63, none, .iaddr (.slice 1) (.t 54) (.t 55)⟩,
                      ⟨none, none, .store 1 (.t 63) (.t 62)⟩])
                     .skip))
                   (.seq
                    (.reg [⟨some 64, none, .mov (.t 6)⟩,
                     ⟨some 65, none, .mov (.t 7)⟩,
                     ⟨some 66, none, .iaddr (.slice 1) (.t 64) (.t 65)⟩,
                     ⟨some 67, none, .load 1 false (.t 66)⟩,
                     ⟨some 68, none, .bin .gtr (.t 67) (.c (.int .i64 32))⟩])
                    (.cond (.t 68)
                     (.seq
                      (.reg [⟨some 4, none, .mov (.c (.int .i64 7))⟩])
                      .ret)
                     .skip))))))))))
           (.reg [⟨some 69, none, .bin .add (.t 19) (.c (.int .i64 1))⟩,
            ⟨some 19, none, .mov (.t 69)⟩]))))
/-- tracebook/intern.checkStacks -/
def c29 : AFn := ⟨2, 70, [.t 4],
 (.seq
  (.reg [⟨some 4, none, .mov (.c (.int .i64 0))⟩])
  (.seq
   (.reg [⟨some 11, none, .mov (.t 1)⟩,
    ⟨some 12, none, .len (.t 11)⟩,
    ⟨some 13, none, .mkmap (some (.t 12))⟩,
    ⟨some 5, none, .mov (.t 13)⟩])
   (.seq
    (.reg [⟨some 14, none, .mov (.t 1)⟩,
     ⟨some 15, none, .len (.t 14)⟩,
     ⟨some 16, none, .make 1 8 [(.int .i64 0)] (.t 15) (.t 15)⟩,
     ⟨some 6, none, .mov (.t 16)⟩])
    (.seq
     (.seq
      (.reg [⟨some 17, none, .mov (.t 1)⟩,
       ⟨some 18, none, .len (.t 17)⟩,
       ⟨some 19, none, .mov (.c (.int .i64 0))⟩])
      (.block 0
       (.loop [0, 5, 6, 17, 18, 19]
        c29b0)))
     (.seq
      (.reg [⟨some 4, none, .mov (.c (.int .i64 0))⟩])
      .ret))))), none⟩
def k29 : List (List Nat) := [[0, 5, 6, 17, 18, 19]]
def o29 : List Nat := [1000027]
def c30b0 : AC := (.seq
       (.seq
        (.reg [⟨some 6, none, .mov (.t 5)⟩,
         ⟨some 7, none, .mov (.t 0)⟩,
         ⟨some 8, none, .len (.t 7)⟩,
         ⟨some 9, none, .bin .lss (.t 6) (.t 8)⟩])
        (.cond (.t 9)
         .skip
         (.exit 0)))
       (.seq
        (.block 1
         (.seq
          (.reg [⟨some 12, none, .mov (.t 0)⟩,
           ⟨some 13, none, .mov (.t 5)⟩,
           ⟨some 14, none, .iaddr (.slice 1) (.t 12) (.t 13)⟩,
           ⟨some 15, none, .load 1 false (.t 14)⟩,
           ⟨some 16, none, .mov (.t 1)⟩,
           ⟨some 17, none, .bin .eql (.t 15) (.t 16)⟩])
          (.cond (.t 17)
           (.seq
            (.reg [⟨some 18, none, .mov (.t 5)⟩,
             ⟨some 4, none, .mov (.t 18)⟩])
            .ret)
           .skip)))
        (.reg [⟨some 10, none, .mov (.t 5)⟩,
         ⟨some 11, none, .bin .add (.t 10) (.c (.int .i64 1))⟩,
         ⟨some 5, none, .mov (.t 11)⟩])))
/-- tracebook/tracebookref06.Find -/
def c30 : AFn := ⟨2, 19, [.t 4],
 (.seq
  (.reg [⟨some 4, none, .mov (.c (.int .i64 0))⟩])
  (.seq
   (.seq
    (.reg [⟨some 5, none, .mov (.c (.int .i64 0))⟩])
    (.block 0
     (.loop [0, 1, 5]
      c30b0)))
   (.seq
    (.reg [⟨some 4, none, .mov (.c (.int .i64 (-1)))⟩])
    .ret))), none⟩
def k30 : List (List Nat) := [[0, 1, 5]]
def o30 : List Nat := [1000027]
def c31b0 : AC := (.seq
       (.seq
        (.reg [⟨some 6, none, .mov (.t 5)⟩,
         ⟨some 7, none, .mov (.t 0)⟩,
         ⟨some 8, none, .len (.t 7)⟩,
         ⟨some 9, none, .bin .lss (.t 6) (.t 8)⟩])
        (.cond (.t 9)
         .skip
         (.exit 0)))
       (.seq
        (.block 1
         (.seq
          (.reg [⟨some 12, none, .mov (.t 0)⟩,
           ⟨some 13, none, .mov (.t 5)⟩,
           ⟨some 14, none, .iaddr (.slice 2) (.t 12) (.t 13)⟩,
           ⟨some 15, none, .load 2 true (.t 14)⟩,
           ⟨some 16, none, .load 2 true (.t 3)⟩,
           ⟨some 17, none, .beqA false [.i, .i] (.t 15) (.t 16)⟩])
          (.cond (.t 17)
           (.seq
            (.reg [⟨some 18, none, .mov (.t 5)⟩,
             ⟨some 4, none, .mov (.t 18)⟩])
            .ret)
           .skip)))
        (.reg [⟨some 10, none, .mov (.t 5)⟩,
         ⟨some 11, none, .bin .add (.t 10) (.c (.int .i64 1))⟩,
         ⟨some 5, none, .mov (.t 11)⟩])))
/-- tracebook/tracebookref06.FindStack -/
def c31 : AFn := ⟨2, 19, [.t 4],
 (.seq
  (.reg [⟨some 3, none, .box (.t 1)⟩,
   ⟨some 4, none, .mov (.c (.int .i64 0))⟩])
  (.seq
   (.seq
    (.reg [⟨some 5, none, .mov (.c (.int .i64 0))⟩])
    (.block 0
     (.loop [0, 3, 5]
      c31b0)))
   (.seq
    (.reg [⟨some 4, none, .mov (.c (.int .i64 (-1)))⟩])
    .ret))), none⟩
def k31 : List (List Nat) := [[0, 3, 5]]
def o31 : List Nat := [1000027]
def c32b0 : AC := (.seq
       (.seq
        (.reg [⟨some 6, none, .mov (.t 1)⟩,
         ⟨some 7, none, .bin .geq (.t 6) (.c (.int .i64 0))⟩])
        (.cond (.t 7)
         .skip
         (.exit 0)))
       (.block 1
        (.seq
         (.reg [⟨some 8, none, .mov (.t 5)⟩,
          ⟨some 9, none, .bin .add (.t 8) (.c (.int .i64 1))⟩,
          ⟨some 5, none, .mov (.t 9)⟩])
         (.reg [⟨some 10, none, .mov (.t 0)⟩,
          ⟨some 11, none, .mov (.t 1)⟩,
          ⟨some 12, none, .iaddr (.slice 2) (.t 10) (.t 11)⟩,
          ⟨some 13, none, .iaddr (.array 2 1) (.t 12) (.c (.int .i64 0))⟩,
          ⟨some 14, none, .load 1 false (.t 13)⟩,
          ⟨some 1, none, .mov (.t 14)⟩]))))
/-- tracebook/tracebookref06.depth -/
def c32 : AFn := ⟨2, 16, [.t 4],
 (.seq
  (.reg [⟨some 4, none, .mov (.c (.int .i64 0))⟩])
  (.seq
   (.reg [⟨some 5, none, .mov (.c (.int .i64 0))⟩])
   (.seq
    (.block 0
     (.loop [0, 1, 5]
      c32b0))
    (.seq
     (.reg [⟨some 15, none, .mov (.t 5)⟩,
      ⟨some 4, none, .mov (.t 15)⟩])
     .ret)))), none⟩
def k32 : List (List Nat) := [[0, 1, 5]]
def o32 : List Nat := [1000027]
def c33b0 : AC := (.seq
       (.reg [⟨some 9, none, .bin .lss (.t 8) (.t 7)⟩])
       (.seq
        (.cond (.t 9)
         .skip
         (.exit 0))
        (.seq
         (.block 1
          (.seq
           (.reg [⟨some 10, none, .mov (.t 8)⟩,
            ⟨some 5, none, .mov (.t 10)⟩])
           (.seq
            (.reg [⟨some 11, none, .mov (.t 1)⟩,
             ⟨some 12, none, .mov (.t 0)⟩,
             ⟨some 13, none, .mov (.t 5)⟩,
             ⟨some 14, none, .iaddr (.slice 1) (.t 12) (.t 13)⟩,
             ⟨some 15, none, .load 1 false (.t 14)⟩,
             ⟨some 16, none, .bin .eql (.t 11) (.t 15)⟩])
            (.cond (.t 16)
             (.seq
              (.reg [⟨some 17, none, .mov (.t 5)⟩,
               ⟨some 4, none, .mov (.t 17)⟩])
              .ret)
             .skip))))
         (.reg [⟨some 18, none, .bin .add (.t 8) (.c (.int .i64 1))⟩,
          ⟨some 8, none, .mov (.t 18)⟩]))))
/-- slices.Index[[]string,string] -/
def c33 : AFn := ⟨2, 19, [.t 4],
 (.seq
  (.reg [⟨some 4, none, .mov (.c (.int .i64 0))⟩])
  (.seq
   (.seq
    (.reg [⟨some 6, none, .mov (.t 0)⟩,
     ⟨some 7, none, .len (.t 6)⟩,
     ⟨some 8, none, .mov (.c (.int .i64 0))⟩])
    (.block 0
     (.loop [0, 1, 7, 8]
      c33b0)))
   (.seq
    (.reg [⟨some 4, none, .mov (.c (.int .i64 (-1)))⟩])
    .ret))), none⟩
def k33 : List (List Nat) := [[0, 1, 7, 8]]
def o33 : List Nat := [1000027]
/-- slices.Clip[[]string,string] -/
def c34 : AFn := ⟨1, 9, [.t 2],
 (.seq
  (.reg [⟨some 2, none, .nilv 1⟩])
  (.seq
   (.reg [⟨some 3, none, .mov (.t 0)⟩,
    ⟨some 4, none, .mov (.t 0)⟩,
    ⟨some 5, none, .len (.t 4)⟩,
    ⟨some 6, none, .mov (.t 0)⟩,
    ⟨some 7, none, .len (.t 6)⟩,
    ⟨some 8, none, .slc (.slice 1) (.t 3) none (some (.t 5)) (some (.t 7))⟩,
    ⟨some 2, none, .mov (.t 8)⟩])
   .ret)), none⟩
def k34 : List (List Nat) := []
def o34 : List Nat := [1000027]
/-- slices.Clip[[][2]int,[2]int] -/
def c35 : AFn := ⟨1, 9, [.t 2],
 (.seq
  (.reg [⟨some 2, none, .nilv 2⟩])
  (.seq
   (.reg [⟨some 3, none, .mov (.t 0)⟩,
    ⟨some 4, none, .mov (.t 0)⟩,
    ⟨some 5, none, .len (.t 4)⟩,
    ⟨some 6, none, .mov (.t 0)⟩,
    ⟨some 7, none, .len (.t 6)⟩,
    ⟨some 8, none, .slc (.slice 2) (.t 3) none (some (.t 5)) (some (.t 7))⟩,
    ⟨some 2, none, .mov (.t 8)⟩])
   .ret)), none⟩
def k35 : List (List Nat) := []
def o35 : List Nat := [1000027]
def c36b0 : AC := (.seq
       (.reg [⟨some 9, none, .bin .lss (.t 8) (.t 7)⟩])
       (.seq
        (.cond (.t 9)
         .skip
         (.exit 0))
        (.seq
         (.block 1
          (.seq
           (.reg [⟨some 10, none, .mov (.t 8)⟩,
            ⟨some 5, none, .mov (.t 10)⟩])
           (.seq
            (.reg [⟨some 11, none, .load 2 true (.t 3)⟩,
             ⟨some 12, none, .mov (.t 0)⟩,
             ⟨some 13, none, .mov (.t 5)⟩,
             ⟨some 14, none, .iaddr (.slice 2) (.t 12) (.t 13)⟩,
             ⟨some 15, none, .load 2 true (.t 14)⟩,
             ⟨some 16, none, .beqA false [.i, .i] (.t 11) (.t 15)⟩])
            (.cond (.t 16)
             (.seq
              (.reg [⟨some 17, none, .mov (.t 5)⟩,
               ⟨some 4, none, .mov (.t 17)⟩])
              .ret)
             .skip))))
         (.reg [⟨some 18, none, .bin .add (.t 8) (.c (.int .i64 1))⟩,
          ⟨some 8, none, .mov (.t 18)⟩]))))
/-- slices.Index[[][2]int,[2]int] -/
def c36 : AFn := ⟨2, 19, [.t 4],
 (.seq
  (.reg [⟨some 3, none, .box (.t 1)⟩,
   ⟨some 4, none, .mov (.c (.int .i64 0))⟩])
  (.seq
   (.seq
    (.reg [⟨some 6, none, .mov (.t 0)⟩,
     ⟨some 7, none, .len (.t 6)⟩,
     ⟨some 8, none, .mov (.c (.int .i64 0))⟩])
    (.block 0
     (.loop [0, 3, 7, 8]
      c36b0)))
   (.seq
    (.reg [⟨some 4, none, .mov (.c (.int .i64 (-1)))⟩])
    .ret))), none⟩
def k36 : List (List Nat) := [[0, 3, 7, 8]]
def o36 : List Nat := [1000027]
def tbl : List (Nat × AFn) := [(3, c3), (4, c4), (5, c5), (6, c6), (7, c7), (8, c8), (9, c9), (10, c10), (11, c11), (12, c12), (13, c13), (14, c14), (15, c15), (16, c16), (17, c17), (18, c18), (19, c19), (20, c20), (21, c21), (22, c22), (23, c23), (24, c24), (25, c25), (26, c26), (27, c27), (28, c28), (29, c29), (30, c30), (31, c31), (32, c32), (33, c33), (34, c34), (35, c35), (36, c36)]
theorem d3 : digFn Try.prog o3 k3 Try.f3 = some c3 := by kernel_rfl
theorem d4 : digFn Try.prog o4 k4 Try.f4 = some c4 := by kernel_rfl
theorem d5 : digFn Try.prog o5 k5 Try.f5 = some c5 := by kernel_rfl
theorem d6 : digFn Try.prog o6 k6 Try.f6 = some c6 := by kernel_rfl
theorem d7 : digFn Try.prog o7 k7 Try.f7 = some c7 := by kernel_rfl
theorem d8 : digFn Try.prog o8 k8 Try.f8 = some c8 := by kernel_rfl
theorem d9 : digFn Try.prog o9 k9 Try.f9 = some c9 := by kernel_rfl
theorem d10 : digFn Try.prog o10 k10 Try.f10 = some c10 := by kernel_rfl
theorem d11 : digFn Try.prog o11 k11 Try.f11 = some c11 := by kernel_rfl
theorem d12 : digFn Try.prog o12 k12 Try.f12 = some c12 := by kernel_rfl
theorem d13 : digFn Try.prog o13 k13 Try.f13 = some c13 := by kernel_rfl
theorem d14 : digFn Try.prog o14 k14 Try.f14 = some c14 := by kernel_rfl
theorem d15 : digFn Try.prog o15 k15 Try.f15 = some c15 := by kernel_rfl
theorem d16 : digFn Try.prog o16 k16 Try.f16 = some c16 := by kernel_rfl
theorem d17 : digFn Try.prog o17 k17 Try.f17 = some c17 := by kernel_rfl
theorem d18 : digFn Try.prog o18 k18 Try.f18 = some c18 := by kernel_rfl
theorem d19 : digFn Try.prog o19 k19 Try.f19 = some c19 := by kernel_rfl
theorem d20 : digFn Try.prog o20 k20 Try.f20 = some c20 := by kernel_rfl
theorem d21 : digFn Try.prog o21 k21 Try.f21 = some c21 := by kernel_rfl
theorem d22 : digFn Try.prog o22 k22 Try.f22 = some c22 := by kernel_rfl
theorem d23 : digFn Try.prog o23 k23 Try.f23 = some c23 := by kernel_rfl
theorem d24 : digFn Try.prog o24 k24 Try.f24 = some c24 := by kernel_rfl
theorem d25 : digFn Try.prog o25 k25 Try.f25 = some c25 := by kernel_rfl
theorem d26 : digFn Try.prog o26 k26 Try.f26 = some c26 := by kernel_rfl
theorem d27 : digFn Try.prog o27 k27 Try.f27 = some c27 := by kernel_rfl
theorem d28 : digFn Try.prog o28 k28 Try.f28 = some c28 := by kernel_rfl
theorem d29 : digFn Try.prog o29 k29 Try.f29 = some c29 := by kernel_rfl
theorem d30 : digFn Try.prog o30 k30 Try.f30 = some c30 := by kernel_rfl
theorem d31 : digFn Try.prog o31 k31 Try.f31 = some c31 := by kernel_rfl
theorem d32 : digFn Try.prog o32 k32 Try.f32 = some c32 := by kernel_rfl
theorem d33 : digFn Try.prog o33 k33 Try.f33 = some c33 := by kernel_rfl
theorem d34 : digFn Try.prog o34 k34 Try.f34 = some c34 := by kernel_rfl
theorem d35 : digFn Try.prog o35 k35 Try.f35 = some c35 := by kernel_rfl
theorem d36 : digFn Try.prog o36 k36 Try.f36 = some c36 := by kernel_rfl
def Dg (f : Nat) : Option AFn := lookP tbl f
theorem D3 : Dg 3 = some c3 := by kernel_rfl
theorem D4 : Dg 4 = some c4 := by kernel_rfl
theorem D5 : Dg 5 = some c5 := by kernel_rfl
theorem D6 : Dg 6 = some c6 := by kernel_rfl
theorem D7 : Dg 7 = some c7 := by kernel_rfl
theorem D8 : Dg 8 = some c8 := by kernel_rfl
theorem D9 : Dg 9 = some c9 := by kernel_rfl
theorem D10 : Dg 10 = some c10 := by kernel_rfl
theorem D11 : Dg 11 = some c11 := by kernel_rfl
theorem D12 : Dg 12 = some c12 := by kernel_rfl
theorem D13 : Dg 13 = some c13 := by kernel_rfl
theorem D14 : Dg 14 = some c14 := by kernel_rfl
theorem D15 : Dg 15 = some c15 := by kernel_rfl
theorem D16 : Dg 16 = some c16 := by kernel_rfl
theorem D17 : Dg 17 = some c17 := by kernel_rfl
theorem D18 : Dg 18 = some c18 := by kernel_rfl
theorem D19 : Dg 19 = some c19 := by kernel_rfl
theorem D20 : Dg 20 = some c20 := by kernel_rfl
theorem D21 : Dg 21 = some c21 := by kernel_rfl
theorem D22 : Dg 22 = some c22 := by kernel_rfl
theorem D23 : Dg 23 = some c23 := by kernel_rfl
theorem D24 : Dg 24 = some c24 := by kernel_rfl
theorem D25 : Dg 25 = some c25 := by kernel_rfl
theorem D26 : Dg 26 = some c26 := by kernel_rfl
theorem D27 : Dg 27 = some c27 := by kernel_rfl
theorem D28 : Dg 28 = some c28 := by kernel_rfl
theorem D29 : Dg 29 = some c29 := by kernel_rfl
theorem D30 : Dg 30 = some c30 := by kernel_rfl
theorem D31 : Dg 31 = some c31 := by kernel_rfl
theorem D32 : Dg 32 = some c32 := by kernel_rfl
theorem D33 : Dg 33 = some c33 := by kernel_rfl
theorem D34 : Dg 34 = some c34 := by kernel_rfl
theorem D35 : Dg 35 = some c35 := by kernel_rfl
theorem D36 : Dg 36 = some c36 := by kernel_rfl
theorem dokL : ∀ x ∈ tbl, FnOk Try.prog x.1 x.2 :=
  all_cons (fnok Try.func3 d3) (
  all_cons (fnok Try.func4 d4) (
  all_cons (fnok Try.func5 d5) (
  all_cons (fnok Try.func6 d6) (
  all_cons (fnok Try.func7 d7) (
  all_cons (fnok Try.func8 d8) (
  all_cons (fnok Try.func9 d9) (
  all_cons (fnok Try.func10 d10) (
  all_cons (fnok Try.func11 d11) (
  all_cons (fnok Try.func12 d12) (
  all_cons (fnok Try.func13 d13) (
  all_cons (fnok Try.func14 d14) (
  all_cons (fnok Try.func15 d15) (
  all_cons (fnok Try.func16 d16) (
  all_cons (fnok Try.func17 d17) (
  all_cons (fnok Try.func18 d18) (
  all_cons (fnok Try.func19 d19) (
  all_cons (fnok Try.func20 d20) (
  all_cons (fnok Try.func21 d21) (
  all_cons (fnok Try.func22 d22) (
  all_cons (fnok Try.func23 d23) (
  all_cons (fnok Try.func24 d24) (
  all_cons (fnok Try.func25 d25) (
  all_cons (fnok Try.func26 d26) (
  all_cons (fnok Try.func27 d27) (
  all_cons (fnok Try.func28 d28) (
  all_cons (fnok Try.func29 d29) (
  all_cons (fnok Try.func30 d30) (
  all_cons (fnok Try.func31 d31) (
  all_cons (fnok Try.func32 d32) (
  all_cons (fnok Try.func33 d33) (
  all_cons (fnok Try.func34 d34) (
  all_cons (fnok Try.func35 d35) (
  all_cons (fnok Try.func36 d36) (
  all_nil))))))))))))))))))))))))))))))))))
theorem dok : DOk Try.prog Dg := fun f fc h => dokL (f, fc) (lookP_mem h)

end Go.Proofs.Ytddlicbogbmpbaa
