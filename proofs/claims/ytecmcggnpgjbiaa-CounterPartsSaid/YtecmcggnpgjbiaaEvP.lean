/- The code of the functions, as it is read. -/
import Derived.Test.YtecmcggnpgjbiaaXt
import Derived.Test.YtecmcggnpgjbiaaProg
namespace Go.Proofs.Ytecmcggnpgjbiaa
open Go
/-- tracebook/tracebooklaw30.CounterFinds -/
def c3 : AFn := ⟨1, 22, [.t 2],
 (.seq
  (.reg [⟨some 2, none, .mov (.c (.bool false))⟩])
  (.seq
   (.seq
    (.reg [⟨some 4, none, .mov (.t 0)⟩,
     ⟨some 5, none, .call false 9 [(.t 4)]⟩,
     ⟨some 6, none, .un .not (.t 5)⟩])
    (.cond (.t 6)
     (.seq
      (.reg [⟨some 7, none, .call false 10 []⟩,
       ⟨some 2, none, .mov (.t 7)⟩])
      .ret)
     .skip))
   (.seq
    (.reg [⟨some 8, none, .mov (.t 0)⟩,
     ⟨some 9, none, .call false 11 [(.t 8)]⟩,
     ⟨some 3, none, .mov (.t 9)⟩])
    (.seq
     (.reg [⟨some 10, none, .mov (.t 3)⟩,
      ⟨some 11, none, .mov (.t 0)⟩,
      ⟨some 12, none, .call false 13 [(.t 11)]⟩,
      ⟨some 13, none, .call false 12 [(.t 10), (.t 12)]⟩,
      ⟨some 14, none, .mov (.t 13)⟩,
      ⟨some 15, some (14, true), .mov (.t 3)⟩,
      ⟨some 16, some (14, true), .call false 14 [(.t 15)]⟩,
      ⟨some 17, some (14, true), .bin .eql (.t 16) (.c (.int .i64 0))⟩,
      ⟨some 18, none, .pick (.t 14) (.t 17) (.c (.bool false))⟩,
      ⟨some 19, none, .mov (.t 18)⟩,
      ⟨some 20, some (19, true), .call false 10 []⟩,
      ⟨some 21, none, .pick (.t 19) (.t 20) (.c (.bool false))⟩,
      ⟨some 2, none, .mov (.t 21)⟩])
     .ret)))), none⟩
def k3 : List (List Nat) := []
def o3 : List Nat := [3000000]
def c4b0 : AC := (.seq
         (.seq
          (.reg [⟨some 22, none, .mov (.t 7)⟩,
           ⟨some 23, none, .bin .geq (.t 22) (.c (.int .i64 0))⟩])
          (.cond (.t 23)
           .skip
           (.exit 0)))
         (.seq
          (.block 1
           (.seq
            (.reg [⟨some 26, none, .mov (.t 0)⟩,
             ⟨some 27, none, .mov (.t 7)⟩,
             ⟨some 28, none, .iaddr (.slice 10) (.t 26) (.t 27)⟩,
             ⟨some 29, none, .faddr 2 (.t 28)⟩,
             ⟨some 30, none, .faddr 1 (.t 29)⟩,
             ⟨some 31, none, .load 1 false (.t 30)⟩,
             ⟨some 32, none, .bin .eql (.t 31) (.c (.int .i64 4))⟩,
             ⟨some 33, none, .mov (.t 32)⟩,
             ⟨some 34, some (33, true), .mov (.t 0)⟩,
             ⟨some 35, some (33, true), .mov (.t 7)⟩,
             ⟨some 36, some (33, true), .iaddr (.slice 10) (.t 34) (.t 35)⟩,
             ⟨some 37, some (33, true), .faddr 2 (.t 36)⟩,
             ⟨some 38, some (33, true), .faddr 2 (.t 37)⟩,
             ⟨some 39, some (33, true), .load 1 false (.t 38)⟩,
             ⟨some 40, some (33, true), .mov (.t 1)⟩,
             ⟨some 41, some (33, true), .bin .eql (.t 39) (.t 40)⟩,
             ⟨some 42, none, .pick (.t 33) (.t 41) (.c (.bool false))⟩])
            (.cond (.t 42)
             (.seq
              (.reg [⟨some 43, none, .mov (.t 5)⟩,
               ⟨some 44, none, .mov (.t 0)⟩,
               ⟨some 45, none, .mov (.t 7)⟩,
               ⟨some 46, none, .iaddr (.slice 10) (.t 44) (.t 45)⟩,
               ⟨some 47, none, .faddr 2 (.t 46)⟩,
               ⟨some 48, none, .faddr 3 (.t 47)⟩,
               ⟨some 49, none, .load 1 false (.t 48)⟩,
               ⟨some 50, none, .bin .eql (.t 43) (.t 49)⟩,
               ⟨some 51, none, .mov (.t 50)⟩,
               ⟨some 52, some (51, true), .mov (.t 6)⟩,
               ⟨some 53, none, .pick (.t 51) (.t 52) (.c (.bool false))⟩,
               ⟨some 54, none, .mov (.t 53)⟩,
               ⟨some 55, some (54, true), .call false 10 []⟩,
               ⟨some 56, none, .pick (.t 54) (.t 55) (.c (.bool false))⟩,
               ⟨some 4, none, .mov (.t 56)⟩])
              .ret)
             .skip)))
          (.reg [⟨some 24, none, .mov (.t 7)⟩,
           ⟨some 25, none, .bin .sub (.t 24) (.c (.int .i64 1))⟩,
           ⟨some 7, none, .mov (.t 25)⟩])))
def c4r0 : AC := (.seq
      (.reg [⟨some 57, none, .mov (.t 5)⟩,
       ⟨some 58, none, .bin .eql (.t 57) (.c (.int .i64 0))⟩,
       ⟨some 59, none, .mov (.t 58)⟩,
       ⟨some 60, some (59, true), .mov (.t 6)⟩,
       ⟨some 61, some (59, true), .un .not (.t 60)⟩,
       ⟨some 62, none, .pick (.t 59) (.t 61) (.c (.bool false))⟩,
       ⟨some 63, none, .mov (.t 62)⟩,
       ⟨some 64, some (63, true), .call false 10 []⟩,
       ⟨some 65, none, .pick (.t 63) (.t 64) (.c (.bool false))⟩,
       ⟨some 4, none, .mov (.t 65)⟩])
      .ret)
/-- tracebook/tracebooklaw30.CounterLast -/
def c4 : AFn := ⟨2, 66, [.t 4],
 (.seq
  (.reg [⟨some 4, none, .mov (.c (.bool false))⟩])
  (.seq
   (.seq
    (.reg [⟨some 8, none, .mov (.t 0)⟩,
     ⟨some 9, none, .call false 9 [(.t 8)]⟩,
     ⟨some 10, none, .un .not (.t 9)⟩])
    (.cond (.t 10)
     (.seq
      (.reg [⟨some 11, none, .call false 10 []⟩,
       ⟨some 4, none, .mov (.t 11)⟩])
      .ret)
     .skip))
   (.seq
    (.reg [⟨some 13, none, .mov (.t 0)⟩,
     ⟨some 14, none, .call false 11 [(.t 13)]⟩,
     ⟨some 15, none, .mov (.t 1)⟩,
     ⟨some 16, none, .call false 15 [(.t 14), (.t 15), (.c (.int .i64 1000000000000))]⟩,
     ⟨some 12, none, .mov (.t 16)⟩,
     ⟨some 17, none, .ext (.t 12) 0⟩,
     ⟨some 18, none, .ext (.t 12) 1⟩,
     ⟨some 5, none, .mov (.t 17)⟩,
     ⟨some 6, none, .mov (.t 18)⟩])
    (.seq
     (.seq
      (.reg [⟨some 19, none, .mov (.t 0)⟩,
       ⟨some 20, none, .len (.t 19)⟩,
       ⟨some 21, none, .bin .sub (.t 20) (.c (.int .i64 1))⟩,
       ⟨some 7, none, .mov (.t 21)⟩])
      (.block 0
       (.loop [0, 1, 5, 6, 7]
        c4b0)))
     c4r0)))), none⟩
def k4 : List (List Nat) := [[0, 1, 5, 6, 7]]
def o4 : List Nat := [3000000]
/-- tracebook/tracebooklaw30.CounterChecks -/
def c5 : AFn := ⟨1, 15, [.t 2],
 (.seq
  (.reg [⟨some 2, none, .mov (.c (.bool false))⟩])
  (.seq
   (.seq
    (.reg [⟨some 3, none, .mov (.t 0)⟩,
     ⟨some 4, none, .len (.t 3)⟩,
     ⟨some 5, none, .bin .gtr (.t 4) (.c (.int .i64 60))⟩])
    (.cond (.t 5)
     (.seq
      (.reg [⟨some 6, none, .call false 10 []⟩,
       ⟨some 2, none, .mov (.t 6)⟩])
      .ret)
     .skip))
   (.seq
    (.reg [⟨some 7, none, .mov (.t 0)⟩,
     ⟨some 8, none, .call false 14 [(.t 7)]⟩,
     ⟨some 9, none, .mov (.t 0)⟩,
     ⟨some 10, none, .call false 16 [(.t 9)]⟩,
     ⟨some 11, none, .bin .eql (.t 8) (.t 10)⟩,
     ⟨some 12, none, .mov (.t 11)⟩,
     ⟨some 13, some (12, true), .call false 10 []⟩,
     ⟨some 14, none, .pick (.t 12) (.t 13) (.c (.bool false))⟩,
     ⟨some 2, none, .mov (.t 14)⟩])
    .ret))), none⟩
def k5 : List (List Nat) := []
def o5 : List Nat := [3000000]
/-- tracebook/tracebooklaw30.CounterLooks -/
def c6 : AFn := ⟨3, 82, [.t 6],
 (.seq
  (.reg [⟨some 6, none, .mov (.c (.bool false))⟩])
  (.seq
   (.seq
    (.reg [⟨some 15, none, .mov (.t 0)⟩,
     ⟨some 16, none, .len (.t 15)⟩,
     ⟨some 17, none, .bin .gtr (.t 16) (.c (.int .i64 60))⟩,
     ⟨some 18, none, .mov (.t 17)⟩,
     ⟨some 19, some (18, false), .mov (.t 0)⟩,
     ⟨some 20, some (18, false), .call false 16 [(.t 19)]⟩,
     ⟨some 21, some (18, false), .bin .neq (.t 20) (.c (.int .i64 0))⟩,
     ⟨some 22, none, .pick (.t 18) (.c (.bool true)) (.t 21)⟩])
    (.cond (.t 22)
     (.seq
      (.reg [⟨some 23, none, .call false 10 []⟩,
       ⟨some 6, none, .mov (.t 23)⟩])
      .ret)
     .skip))
   (.seq
    (.reg [⟨some 25, none, .mov (.t 0)⟩,
     ⟨some 26, none, .mov (.t 1)⟩,
     ⟨some 27, none, .mov (.t 2)⟩,
     ⟨some 28, none, .call false 15 [(.t 25), (.t 26), (.t 27)]⟩,
     ⟨some 24, none, .mov (.t 28)⟩,
     ⟨some 29, none, .ext (.t 24) 0⟩,
     ⟨some 30, none, .ext (.t 24) 1⟩,
     ⟨some 7, none, .mov (.t 29)⟩,
     ⟨some 8, none, .mov (.t 30)⟩])
    (.seq
     (.reg [⟨some 32, none, .mov (.t 0)⟩,
      ⟨some 33, none, .mov (.t 1)⟩,
      ⟨some 34, none, .mov (.t 2)⟩,
      ⟨some 35, none, .call false 17 [(.t 32), (.t 33), (.t 34)]⟩,
      ⟨some 31, none, .mov (.t 35)⟩,
      ⟨some 36, none, .ext (.t 31) 0⟩,
      ⟨some 37, none, .ext (.t 31) 1⟩,
      ⟨some 9, none, .mov (.t 36)⟩,
      ⟨some 10, none, .mov (.t 37)⟩])
     (.seq
      (.reg [⟨some 39, none, .mov (.t 0)⟩,
       ⟨some 40, none, .mov (.t 1)⟩,
       ⟨some 41, none, .call false 18 [(.t 39), (.t 40)]⟩,
       ⟨some 38, none, .mov (.t 41)⟩,
       ⟨some 42, none, .ext (.t 38) 0⟩,
       ⟨some 43, none, .ext (.t 38) 1⟩,
       ⟨some 11, none, .alloc [(.str []), (.int .i64 0), (.int .i64 0)]⟩,
       ⟨none, none, .store 3 (.t 11) (.t 42)⟩,
       ⟨some 12, none, .mov (.t 43)⟩])
      (.seq
       (.reg [⟨some 45, none, .mov (.t 0)⟩,
        ⟨some 46, none, .mov (.t 1)⟩,
        ⟨some 47, none, .call false 19 [(.t 45), (.t 46)]⟩,
        ⟨some 44, none, .mov (.t 47)⟩,
        ⟨some 48, none, .ext (.t 44) 0⟩,
        ⟨some 49, none, .ext (.t 44) 1⟩,
        ⟨some 13, none, .alloc [(.str []), (.int .i64 0), (.int .i64 0)]⟩,
        ⟨none, none, .store 3 (.t 13) (.t 48)⟩,
        ⟨some 14, none, .mov (.t 49)⟩])
       (.seq
        (.seq
         (.reg [⟨some 50, none, .mov (.t 7)⟩,
          ⟨some 51, none, .mov (.t 9)⟩,
          ⟨some 52, none, .bin .neq (.t 50) (.t 51)⟩,
          ⟨some 53, none, .mov (.t 52)⟩,
          ⟨some 54, some (53, false), .mov (.t 8)⟩,
          ⟨some 55, some (53, false), .mov (.t 10)⟩,
          ⟨some 56, some (53, false), .beq true (.t 54) (.t 55)⟩,
          ⟨some 57, none, .pick (.t 53) (.c (.bool true)) (.t 56)⟩,
          ⟨some 58, none, .mov (.t 57)⟩,
          ⟨some 59, some (58, false), .load 3 true (.t 11)⟩,
          ⟨some 60, some (58, false), .load 3 true (.t 13)⟩,
          ⟨some 61, some (58, false), .beqA true [.s, .i, .i] (.t 59) (.t 60)⟩,
          ⟨some 62, none, .pick (.t 58) (.c (.bool true)) (.t 61)⟩,
          ⟨some 63, none, .mov (.t 62)⟩,
          ⟨some 64, some (63, false), .mov (.t 12)⟩,
          ⟨some 65, some (63, false), .mov (.t 14)⟩,
          ⟨some 66, some (63, false), .beq true (.t 64) (.t 65)⟩,
          ⟨some 67, none, .pick (.t 63) (.c (.bool true)) (.t 66)⟩])
         (.cond (.t 67)
          (.seq
           (.reg [⟨some 6, none, .mov (.c (.bool false))⟩])
           .ret)
          .skip))
        (.seq
         (.reg [⟨some 68, none, .mov (.t 8)⟩,
          ⟨some 69, none, .un .not (.t 68)⟩,
          ⟨some 70, none, .mov (.t 69)⟩,
          ⟨some 71, some (70, false), .mov (.t 12)⟩,
          ⟨some 72, some (70, false), .mov (.t 71)⟩,
          ⟨some 73, some (72, true), .mov (.t 7)⟩,
          ⟨some 74, some (72, true), .faddr 2 (.t 11)⟩,
          ⟨some 75, some (72, true), .load 1 false (.t 74)⟩,
          ⟨some 76, some (72, true), .bin .leq (.t 73) (.t 75)⟩,
          ⟨some 77, some (70, false), .pick (.t 72) (.t 76) (.c (.bool false))⟩,
          ⟨some 78, none, .pick (.t 70) (.c (.bool true)) (.t 77)⟩,
          ⟨some 79, none, .mov (.t 78)⟩,
          ⟨some 80, some (79, true), .call false 10 []⟩,
          ⟨some 81, none, .pick (.t 79) (.t 80) (.c (.bool false))⟩,
          ⟨some 6, none, .mov (.t 81)⟩])
         .ret)))))))), none⟩
def k6 : List (List Nat) := []
def o6 : List Nat := [3000000]
/-- tracebook/tracebooklaw30.CounterSums -/
def c7 : AFn := ⟨3, 45, [.t 6],
 (.seq
  (.reg [⟨some 5, none, .box (.t 2)⟩,
   ⟨some 6, none, .mov (.c (.bool false))⟩])
  (.seq
   (.seq
    (.reg [⟨some 11, none, .mov (.t 0)⟩,
     ⟨some 12, none, .len (.t 11)⟩,
     ⟨some 13, none, .bin .gtr (.t 12) (.c (.int .i64 60))⟩,
     ⟨some 14, none, .mov (.t 13)⟩,
     ⟨some 15, some (14, false), .mov (.t 0)⟩,
     ⟨some 16, some (14, false), .call false 16 [(.t 15)]⟩,
     ⟨some 17, some (14, false), .bin .neq (.t 16) (.c (.int .i64 0))⟩,
     ⟨some 18, none, .pick (.t 14) (.c (.bool true)) (.t 17)⟩])
    (.cond (.t 18)
     (.seq
      (.reg [⟨some 19, none, .call false 10 []⟩,
       ⟨some 6, none, .mov (.t 19)⟩])
      .ret)
     .skip))
   (.seq
    (.reg [⟨some 21, none, .mov (.t 0)⟩,
     ⟨some 22, none, .mov (.t 1)⟩,
     ⟨some 23, none, .load 2 true (.t 5)⟩,
     ⟨some 24, none, .call false 20 [(.t 21), (.t 22), (.t 23)]⟩,
     ⟨some 20, none, .mov (.t 24)⟩,
     ⟨some 25, none, .ext (.t 20) 0⟩,
     ⟨some 26, none, .ext (.t 20) 1⟩,
     ⟨some 7, none, .mov (.t 25)⟩,
     ⟨some 8, none, .mov (.t 26)⟩])
    (.seq
     (.reg [⟨some 28, none, .mov (.t 0)⟩,
      ⟨some 29, none, .mov (.t 1)⟩,
      ⟨some 30, none, .load 2 true (.t 5)⟩,
      ⟨some 31, none, .call false 21 [(.t 28), (.t 29), (.t 30)]⟩,
      ⟨some 27, none, .mov (.t 31)⟩,
      ⟨some 32, none, .ext (.t 27) 0⟩,
      ⟨some 33, none, .ext (.t 27) 1⟩,
      ⟨some 9, none, .mov (.t 32)⟩,
      ⟨some 10, none, .mov (.t 33)⟩])
     (.seq
      (.reg [⟨some 34, none, .mov (.t 7)⟩,
       ⟨some 35, none, .mov (.t 9)⟩,
       ⟨some 36, none, .bin .eql (.t 34) (.t 35)⟩,
       ⟨some 37, none, .mov (.t 36)⟩,
       ⟨some 38, some (37, true), .mov (.t 8)⟩,
       ⟨some 39, some (37, true), .mov (.t 10)⟩,
       ⟨some 40, some (37, true), .beq false (.t 38) (.t 39)⟩,
       ⟨some 41, none, .pick (.t 37) (.t 40) (.c (.bool false))⟩,
       ⟨some 42, none, .mov (.t 41)⟩,
       ⟨some 43, some (42, true), .call false 10 []⟩,
       ⟨some 44, none, .pick (.t 42) (.t 43) (.c (.bool false))⟩,
       ⟨some 6, none, .mov (.t 44)⟩])
      .ret))))), none⟩
def k7 : List (List Nat) := []
def o7 : List Nat := [3000000]
def c8b0 : AC := (.seq
        (.seq
         (.reg [⟨some 28, none, .mov (.t 7)⟩,
          ⟨some 29, none, .mov (.t 0)⟩,
          ⟨some 30, none, .len (.t 29)⟩,
          ⟨some 31, none, .bin .lss (.t 28) (.t 30)⟩])
         (.cond (.t 31)
          .skip
          (.exit 0)))
        (.seq
         (.block 1
          (.seq
           (.reg [⟨some 34, none, .mov (.t 0)⟩,
            ⟨some 35, none, .mov (.t 7)⟩,
            ⟨some 36, none, .iaddr (.slice 3) (.t 34) (.t 35)⟩,
            ⟨some 37, none, .faddr 0 (.t 36)⟩,
            ⟨some 38, none, .load 1 false (.t 37)⟩,
            ⟨some 8, none, .mov (.t 38)⟩])
           (.seq
            (.seq
             (.reg [⟨some 39, none, .mov (.t 2)⟩,
              ⟨some 40, none, .bin .geq (.t 39) (.c (.int .i64 0))⟩,
              ⟨some 41, none, .mov (.t 40)⟩,
              ⟨some 42, some (41, true), .mov (.t 2)⟩,
              ⟨some 43, some (41, true), .bin .lss (.t 42) (.c (.int .i64 1000000000000))⟩,
              ⟨some 44, none, .pick (.t 41) (.t 43) (.c (.bool false))⟩])
             (.cond (.t 44)
              (.seq
               (.reg [⟨some 46, none, .mov (.t 0)⟩,
                ⟨some 47, none, .mov (.t 8)⟩,
                ⟨some 48, none, .mov (.t 2)⟩,
                ⟨some 49, none, .call false 15 [(.t 46), (.t 47), (.t 48)]⟩,
                ⟨some 45, none, .mov (.t 49)⟩,
                ⟨some 50, none, .ext (.t 45) 0⟩,
                ⟨some 51, none, .ext (.t 45) 1⟩,
                ⟨some 9, none, .mov (.t 50)⟩,
                ⟨some 10, none, .mov (.t 51)⟩])
               (.seq
                (.reg [⟨some 53, none, .mov (.t 0)⟩,
                 ⟨some 54, none, .mov (.t 8)⟩,
                 ⟨some 55, none, .mov (.t 2)⟩,
                 ⟨some 56, none, .mov (.t 2)⟩,
                 ⟨some 57, none, .bin .add (.t 56) (.c (.int .i64 1))⟩,
                 ⟨some 58, none, .build [(.int .i64 0), (.int .i64 0)] [(0, 1, (.t 55)), (1, 1, (.t 57))]⟩,
                 ⟨some 59, none, .call false 20 [(.t 53), (.t 54), (.t 58)]⟩,
                 ⟨some 52, none, .mov (.t 59)⟩,
                 ⟨some 60, none, .ext (.t 52) 0⟩,
                 ⟨some 61, none, .ext (.t 52) 1⟩,
                 ⟨some 11, none, .mov (.t 60)⟩,
                 ⟨some 12, none, .mov (.t 61)⟩])
                (.seq
                 (.reg [⟨some 62, none, .mov (.t 12)⟩,
                  ⟨some 63, none, .un .not (.t 62)⟩,
                  ⟨some 64, none, .mov (.t 63)⟩,
                  ⟨some 65, some (64, false), .mov (.t 11)⟩,
                  ⟨some 66, some (64, false), .mov (.t 9)⟩,
                  ⟨some 67, some (64, false), .bin .neq (.t 65) (.t 66)⟩,
                  ⟨some 68, none, .pick (.t 64) (.c (.bool true)) (.t 67)⟩,
                  ⟨some 69, none, .mov (.t 68)⟩,
                  ⟨some 70, some (69, false), .mov (.t 10)⟩,
                  ⟨some 71, some (69, false), .un .not (.t 70)⟩,
                  ⟨some 72, some (69, false), .mov (.t 71)⟩,
                  ⟨some 73, some (72, true), .mov (.t 9)⟩,
                  ⟨some 74, some (72, true), .bin .neq (.t 73) (.c (.int .i64 0))⟩,
                  ⟨some 75, some (69, false), .pick (.t 72) (.t 74) (.c (.bool false))⟩,
                  ⟨some 76, none, .pick (.t 69) (.c (.bool true)) (.t 75)⟩])
                 (.cond (.t 76)
                  (.seq
                   (.reg [⟨some 6, none, .mov (.c (.bool false))⟩])
                   .ret)
                  .skip))))
              .skip))
            (.seq
             (.reg [⟨some 78, none, .mov (.t 0)⟩,
              ⟨some 79, none, .mov (.t 8)⟩,
              ⟨some 80, none, .faddr 0 (.t 4)⟩,
              ⟨some 81, none, .load 1 false (.t 80)⟩,
              ⟨some 82, none, .mov (.t 2)⟩,
              ⟨some 83, none, .build [(.int .i64 0), (.int .i64 0)] [(0, 1, (.t 81)), (1, 1, (.t 82))]⟩,
              ⟨some 84, none, .call false 20 [(.t 78), (.t 79), (.t 83)]⟩,
              ⟨some 77, none, .mov (.t 84)⟩,
              ⟨some 85, none, .ext (.t 77) 0⟩,
              ⟨some 86, none, .ext (.t 77) 1⟩,
              ⟨some 13, none, .mov (.t 85)⟩,
              ⟨some 14, none, .mov (.t 86)⟩])
             (.seq
              (.reg [⟨some 88, none, .mov (.t 0)⟩,
               ⟨some 89, none, .mov (.t 8)⟩,
               ⟨some 90, none, .mov (.t 2)⟩,
               ⟨some 91, none, .faddr 1 (.t 4)⟩,
               ⟨some 92, none, .load 1 false (.t 91)⟩,
               ⟨some 93, none, .build [(.int .i64 0), (.int .i64 0)] [(0, 1, (.t 90)), (1, 1, (.t 92))]⟩,
               ⟨some 94, none, .call false 20 [(.t 88), (.t 89), (.t 93)]⟩,
               ⟨some 87, none, .mov (.t 94)⟩,
               ⟨some 95, none, .ext (.t 87) 0⟩,
               ⟨some 96, none, .ext (.t 87) 1⟩,
               ⟨some 15, none, .mov (.t 95)⟩,
               ⟨some 16, none, .mov (.t 96)⟩])
              (.seq
               (.reg [⟨some 98, none, .mov (.t 0)⟩,
                ⟨some 99, none, .mov (.t 8)⟩,
                ⟨some 100, none, .load 2 true (.t 4)⟩,
                ⟨some 101, none, .call false 20 [(.t 98), (.t 99), (.t 100)]⟩,
                ⟨some 97, none, .mov (.t 101)⟩,
                ⟨some 102, none, .ext (.t 97) 0⟩,
                ⟨some 103, none, .ext (.t 97) 1⟩,
                ⟨some 17, none, .mov (.t 102)⟩,
                ⟨some 18, none, .mov (.t 103)⟩])
               (.seq
                (.reg [⟨some 104, none, .mov (.t 14)⟩,
                 ⟨some 105, none, .mov (.t 104)⟩,
                 ⟨some 106, some (105, true), .mov (.t 16)⟩,
                 ⟨some 107, none, .pick (.t 105) (.t 106) (.c (.bool false))⟩,
                 ⟨some 108, none, .mov (.t 107)⟩,
                 ⟨some 109, some (108, true), .mov (.t 18)⟩,
                 ⟨some 110, none, .pick (.t 108) (.t 109) (.c (.bool false))⟩,
                 ⟨some 111, none, .mov (.t 110)⟩,
                 ⟨some 112, some (111, true), .mov (.t 13)⟩,
                 ⟨some 113, some (111, true), .mov (.t 15)⟩,
                 ⟨some 114, some (111, true), .bin .add (.t 112) (.t 113)⟩,
                 ⟨some 115, some (111, true), .mov (.t 17)⟩,
                 ⟨some 116, some (111, true), .bin .neq (.t 114) (.t 115)⟩,
                 ⟨some 117, none, .pick (.t 111) (.t 116) (.c (.bool false))⟩])
                (.cond (.t 117)
                 (.seq
                  (.reg [⟨some 6, none, .mov (.c (.bool false))⟩])
                  .ret)
                 .skip))))))))
         (.reg [⟨some 32, none, .mov (.t 7)⟩,
          ⟨some 33, none, .bin .add (.t 32) (.c (.int .i64 1))⟩,
          ⟨some 7, none, .mov (.t 33)⟩])))
def c8r0 : AC := (.seq
     (.reg [⟨some 118, none, .call false 10 []⟩,
      ⟨some 6, none, .mov (.t 118)⟩])
     .ret)
/-- tracebook/tracebooklaw30.CounterParts -/
def c8 : AFn := ⟨3, 119, [.t 6],
 (.seq
  (.reg [⟨some 4, none, .box (.t 1)⟩,
   ⟨some 6, none, .mov (.c (.bool false))⟩])
  (.seq
   (.seq
    (.reg [⟨some 19, none, .mov (.t 0)⟩,
     ⟨some 20, none, .len (.t 19)⟩,
     ⟨some 21, none, .bin .gtr (.t 20) (.c (.int .i64 60))⟩,
     ⟨some 22, none, .mov (.t 21)⟩,
     ⟨some 23, some (22, false), .mov (.t 0)⟩,
     ⟨some 24, some (22, false), .call false 16 [(.t 23)]⟩,
     ⟨some 25, some (22, false), .bin .neq (.t 24) (.c (.int .i64 0))⟩,
     ⟨some 26, none, .pick (.t 22) (.c (.bool true)) (.t 25)⟩])
    (.cond (.t 26)
     (.seq
      (.reg [⟨some 27, none, .call false 10 []⟩,
       ⟨some 6, none, .mov (.t 27)⟩])
      .ret)
     .skip))
   (.seq
    (.seq
     (.reg [⟨some 7, none, .mov (.c (.int .i64 0))⟩])
     (.block 0
      (.loop [0, 2, 4, 7]
       c8b0)))
    c8r0))), none⟩
def k8 : List (List Nat) := [[0, 2, 4, 7]]
def o8 : List Nat := [3000000]
def c9b0 : AC := (.seq
        (.seq
         (.reg [⟨some 7, none, .mov (.t 3)⟩,
          ⟨some 8, none, .mov (.t 0)⟩,
          ⟨some 9, none, .len (.t 8)⟩,
          ⟨some 10, none, .bin .lss (.t 7) (.t 9)⟩])
         (.cond (.t 10)
          .skip
          (.exit 0)))
        (.seq
         (.block 1
          (.seq
           (.reg [⟨some 13, none, .mov (.t 0)⟩,
            ⟨some 14, none, .mov (.t 3)⟩,
            ⟨some 15, none, .iaddr (.slice 10) (.t 13) (.t 14)⟩,
            ⟨some 16, none, .faddr 2 (.t 15)⟩,
            ⟨some 17, none, .faddr 5 (.t 16)⟩,
            ⟨some 18, none, .load 1 false (.t 17)⟩,
            ⟨some 19, none, .len (.t 18)⟩,
            ⟨some 20, none, .bin .gtr (.t 19) (.c (.int .i64 40))⟩])
           (.cond (.t 20)
            (.seq
             (.reg [⟨some 2, none, .mov (.c (.bool false))⟩])
             .ret)
            .skip)))
         (.reg [⟨some 11, none, .mov (.t 3)⟩,
          ⟨some 12, none, .bin .add (.t 11) (.c (.int .i64 1))⟩,
          ⟨some 3, none, .mov (.t 12)⟩])))
def c9r0 : AC := (.seq
     (.reg [⟨some 21, none, .mov (.t 0)⟩,
      ⟨some 22, none, .call false 22 [(.t 21)]⟩,
      ⟨some 2, none, .mov (.t 22)⟩])
     .ret)
/-- tracebook/tracebooklaw30.few -/
def c9 : AFn := ⟨1, 23, [.t 2],
 (.seq
  (.reg [⟨some 2, none, .mov (.c (.bool false))⟩])
  (.seq
   (.seq
    (.reg [⟨some 4, none, .mov (.t 0)⟩,
     ⟨some 5, none, .len (.t 4)⟩,
     ⟨some 6, none, .bin .gtr (.t 5) (.c (.int .i64 60))⟩])
    (.cond (.t 6)
     (.seq
      (.reg [⟨some 2, none, .mov (.c (.bool false))⟩])
      .ret)
     .skip))
   (.seq
    (.seq
     (.reg [⟨some 3, none, .mov (.c (.int .i64 0))⟩])
     (.block 0
      (.loop [0, 3]
       c9b0)))
    c9r0))), none⟩
def k9 : List (List Nat) := [[0, 3]]
def o9 : List Nat := [3000000]
/-- tracebook/tracebooklaw30.lives -/
def c10 : AFn := ⟨0, 65, [.t 0],
 (.seq
  (.reg [⟨some 0, none, .mov (.c (.bool false))⟩])
  (.seq
   (.reg [⟨some 9, none, .call false 23 [(.c (.int .i64 0)), (.c (.int .i64 2)), (.c (.int .i64 1))]⟩,
    ⟨some 10, none, .call false 23 [(.c (.int .i64 1)), (.c (.int .i64 4)), (.c (.int .i64 5))]⟩,
    ⟨some 11, none, .call false 23 [(.c (.int .i64 2)), (.c (.int .i64 4)), (.c (.int .i64 3))]⟩,
    ⟨some 12, none, .bslice false 10 [(.int .i64 0), (.int .i64 0), (.int .i64 0), (.int .i64 0), (.str []), (.int .i64 0), (.int .i64 0), .nilS, (.int .i64 0), (.int .i64 0)] 3 [(0, (.t 9)), (1, (.t 10)), (2, (.t 11))]⟩,
    ⟨some 13, none, .call false 11 [(.t 12)]⟩,
    ⟨some 1, none, .mov (.t 13)⟩])
   (.seq
    (.reg [⟨some 14, none, .build [(.str []), (.int .i64 0), (.int .i64 0)] [(0, 1, (.c (.str [99]))), (1, 1, (.c (.int .i64 2))), (2, 1, (.c (.int .i64 1)))]⟩,
     ⟨some 15, none, .build [(.str []), (.int .i64 0), (.int .i64 0)] [(0, 1, (.c (.str [99]))), (1, 1, (.c (.int .i64 4))), (2, 1, (.c (.int .i64 3)))]⟩,
     ⟨some 16, none, .bslice false 3 [(.str []), (.int .i64 0), (.int .i64 0)] 2 [(0, (.t 14)), (1, (.t 15))]⟩,
     ⟨some 2, none, .mov (.t 16)⟩])
    (.seq
     (.reg [⟨some 18, none, .mov (.t 2)⟩,
      ⟨some 19, none, .build [(.int .i64 0), (.int .i64 0)] [(0, 1, (.c (.int .i64 0))), (1, 1, (.c (.int .i64 6)))]⟩,
      ⟨some 20, none, .call false 20 [(.t 18), (.c (.str [99])), (.t 19)]⟩,
      ⟨some 17, none, .mov (.t 20)⟩,
      ⟨some 21, none, .ext (.t 17) 0⟩,
      ⟨some 22, none, .ext (.t 17) 1⟩,
      ⟨some 3, none, .mov (.t 21)⟩,
      ⟨some 4, none, .mov (.t 22)⟩])
     (.seq
      (.reg [⟨some 24, none, .mov (.t 2)⟩,
       ⟨some 25, none, .call false 15 [(.t 24), (.c (.str [99])), (.c (.int .i64 3))]⟩,
       ⟨some 23, none, .mov (.t 25)⟩,
       ⟨some 26, none, .ext (.t 23) 0⟩,
       ⟨some 27, none, .ext (.t 23) 1⟩,
       ⟨some 5, none, .mov (.t 26)⟩,
       ⟨some 6, none, .mov (.t 27)⟩])
      (.seq
       (.reg [⟨some 29, none, .mov (.t 2)⟩,
        ⟨some 30, none, .call false 18 [(.t 29), (.c (.str [99]))]⟩,
        ⟨some 28, none, .mov (.t 30)⟩,
        ⟨some 31, none, .ext (.t 28) 0⟩,
        ⟨some 32, none, .ext (.t 28) 1⟩,
        ⟨some 7, none, .alloc [(.str []), (.int .i64 0), (.int .i64 0)]⟩,
        ⟨none, none, .store 3 (.t 7) (.t 31)⟩,
        ⟨some 8, none, .mov (.t 32)⟩])
       (.seq
        (.reg [⟨some 33, none, .mov (.t 1)⟩,
         ⟨some 34, none, .mov (.t 2)⟩,
         ⟨some 35, none, .call false 12 [(.t 33), (.t 34)]⟩,
         ⟨some 36, none, .mov (.t 35)⟩,
         ⟨some 37, some (36, true), .mov (.t 2)⟩,
         ⟨some 38, some (36, true), .call false 14 [(.t 37)]⟩,
         ⟨some 39, some (36, true), .bin .eql (.t 38) (.c (.int .i64 0))⟩,
         ⟨some 40, none, .pick (.t 36) (.t 39) (.c (.bool false))⟩,
         ⟨some 41, none, .mov (.t 40)⟩,
         ⟨some 42, some (41, true), .mov (.t 3)⟩,
         ⟨some 43, some (41, true), .bin .eql (.t 42) (.c (.int .i64 8))⟩,
         ⟨some 44, none, .pick (.t 41) (.t 43) (.c (.bool false))⟩,
         ⟨some 45, none, .mov (.t 44)⟩,
         ⟨some 46, some (45, true), .mov (.t 4)⟩,
         ⟨some 47, none, .pick (.t 45) (.t 46) (.c (.bool false))⟩,
         ⟨some 48, none, .mov (.t 47)⟩,
         ⟨some 49, some (48, true), .mov (.t 5)⟩,
         ⟨some 50, some (48, true), .bin .eql (.t 49) (.c (.int .i64 1))⟩,
         ⟨some 51, none, .pick (.t 48) (.t 50) (.c (.bool false))⟩,
         ⟨some 52, none, .mov (.t 51)⟩,
         ⟨some 53, some (52, true), .mov (.t 6)⟩,
         ⟨some 54, none, .pick (.t 52) (.t 53) (.c (.bool false))⟩,
         ⟨some 55, none, .mov (.t 54)⟩,
         ⟨some 56, some (55, true), .load 3 true (.t 7)⟩,
         ⟨some 57, some (55, true), .mov (.t 2)⟩,
         ⟨some 58, some (55, true), .iaddr (.slice 3) (.t 57) (.c (.int .i64 1))⟩,
         ⟨some 59, some (55, true), .load 3 true (.t 58)⟩,
         ⟨some 60, some (55, true), .beqA false [.s, .i, .i] (.t 56) (.t 59)⟩,
         ⟨some 61, none, .pick (.t 55) (.t 60) (.c (.bool false))⟩,
         ⟨some 62, none, .mov (.t 61)⟩,
         ⟨some 63, some (62, true), .mov (.t 8)⟩,
         ⟨some 64, none, .pick (.t 62) (.t 63) (.c (.bool false))⟩,
         ⟨some 0, none, .mov (.t 64)⟩])
        .ret))))))), none⟩
def k10 : List (List Nat) := []
def o10 : List Nat := [3000000]
def c11b0 : AC := (.seq
           (.reg [⟨some 38, none, .bin .lss (.t 37) (.t 36)⟩])
           (.seq
            (.cond (.t 38)
             .skip
             (.exit 2))
            (.seq
             (.block 3
              (.seq
               (.reg [⟨some 39, none, .mov (.t 37)⟩,
                ⟨some 40, none, .iaddr (.slice 3) (.t 35) (.t 37)⟩,
                ⟨some 41, none, .load 3 true (.t 40)⟩,
                ⟨some 8, none, .alloc [(.str []), (.int .i64 0), (.int .i64 0)]⟩,
                ⟨some 7, none, .mov (.t 39)⟩,
                ⟨none, none, .store 3 (.t 8) (.t 41)⟩])
               (.seq
                (.seq
                 (.reg [⟨some 42, none, .mov (.t 7)⟩,
                  ⟨some 43, none, .bin .add (.t 42) (.c (.int .i64 1))⟩,
                  ⟨some 44, none, .mov (.t 3)⟩,
                  ⟨some 45, none, .len (.t 44)⟩,
                  ⟨some 46, none, .bin .lss (.t 43) (.t 45)⟩,
                  ⟨some 47, none, .mov (.t 46)⟩,
                  ⟨some 48, some (47, true), .load 3 true (.t 8)⟩,
                  ⟨some 49, some (47, true), .mov (.t 3)⟩,
                  ⟨some 50, some (47, true), .mov (.t 7)⟩,
                  ⟨some 51, some (47, true), .bin .add (.t 50) (.c (.int .i64 1))⟩,
                  ⟨some 52, some (47, true), .iaddr (.slice 3) (.t 49) (.t 51)⟩,
                  ⟨some 53, some (47, true), .load 3 true (.t 52)⟩,
                  ⟨some 54, some (47, true), .call false 26 [(.t 48), (.t 53)]⟩,
                  ⟨some 55, some (47, true), .bin .eql (.t 54) (.c (.int .i64 0))⟩,
                  ⟨some 56, none, .pick (.t 47) (.t 55) (.c (.bool false))⟩])
                 (.cond (.t 56)
                  (.exit 3)
                  .skip))
                (.seq
                 (.reg [⟨some 57, none, .mov (.t 6)⟩,
                  ⟨some 58, none, .len (.t 57)⟩,
                  ⟨some 9, none, .mov (.t 58)⟩])
                 (.seq
                  (.reg [⟨some 59, none, .mov (.t 9)⟩,
                   ⟨some 60, none, .bin .eql (.t 59) (.c (.int .i64 0))⟩,
                   ⟨some 61, none, .mov (.t 60)⟩,
                   ⟨some 62, some (61, false), .mov (.t 6)⟩,
                   ⟨some 63, some (61, false), .mov (.t 9)⟩,
                   ⟨some 64, some (61, false), .bin .sub (.t 63) (.c (.int .i64 1))⟩,
                   ⟨some 65, some (61, false), .iaddr (.slice 3) (.t 62) (.t 64)⟩,
                   ⟨some 66, some (61, false), .faddr 0 (.t 65)⟩,
                   ⟨some 67, some (61, false), .load 1 false (.t 66)⟩,
                   ⟨some 68, some (61, false), .faddr 0 (.t 8)⟩,
                   ⟨some 69, some (61, false), .load 1 false (.t 68)⟩,
                   ⟨some 70, some (61, false), .bin .neq (.t 67) (.t 69)⟩,
                   ⟨some 71, none, .pick (.t 61) (.c (.bool true)) (.t 70)⟩,
                   ⟨some 72, none, .mov (.t 71)⟩,
                   ⟨some 73, some (72, false), .mov (.t 6)⟩,
                   ⟨some 74, some (72, false), .mov (.t 9)⟩,
                   ⟨some 75, some (72, false), .bin .sub (.t 74) (.c (.int .i64 1))⟩,
                   ⟨some 76, some (72, false), .iaddr (.slice 3) (.t 73) (.t 75)⟩,
                   ⟨some 77, some (72, false), .faddr 2 (.t 76)⟩,
                   ⟨some 78, some (72, false), .load 1 false (.t 77)⟩,
                   ⟨some 79, some (72, false), .faddr 2 (.t 8)⟩,
                   ⟨some 80, some (72, false), .load 1 false (.t 79)⟩,
                   ⟨some 81, some (72, false), .bin .neq (.t 78) (.t 80)⟩,
                   ⟨some 82, none, .pick (.t 72) (.c (.bool true)) (.t 81)⟩])
                  (.cond (.t 82)
                   (.reg [⟨some 83, none, .mov (.t 6)⟩,
                    ⟨some 84, none, .load 3 true (.t 8)⟩,
                    ⟨some 85, none, .bslice false 3 [(.str []), (.int .i64 0), (.int .i64 0)] 1 [(0, (.t 84))]⟩,
                    ⟨some 86, none, .append 3 32 (.t 83) (.t 85)⟩,
                    ⟨some 6, none, .mov (.t 86)⟩])
                   .skip))))))
             (.reg [⟨some 87, none, .bin .add (.t 37) (.c (.int .i64 1))⟩,
              ⟨some 37, none, .mov (.t 87)⟩]))))
def c11b1 : AC := (.seq
        (.reg [⟨some 13, none, .bin .lss (.t 12) (.t 11)⟩])
        (.seq
         (.cond (.t 13)
          .skip
          (.exit 0))
         (.seq
          (.block 1
           (.seq
            (.reg [⟨some 14, none, .iaddr (.slice 10) (.t 10) (.t 12)⟩,
             ⟨some 15, none, .load 10 true (.t 14)⟩,
             ⟨some 5, none, .alloc [(.int .i64 0), (.int .i64 0), (.int .i64 0), (.int .i64 0), (.str []), (.int .i64 0), (.int .i64 0), .nilS, (.int .i64 0), (.int .i64 0)]⟩,
             ⟨none, none, .store 10 (.t 5) (.t 15)⟩])
            (.seq
             (.reg [⟨some 16, none, .faddr 2 (.t 5)⟩,
              ⟨some 17, none, .faddr 1 (.t 16)⟩,
              ⟨some 18, none, .load 1 false (.t 17)⟩,
              ⟨some 19, none, .bin .eql (.t 18) (.c (.int .i64 4))⟩])
             (.cond (.t 19)
              (.reg [⟨some 20, none, .mov (.t 3)⟩,
               ⟨some 21, none, .faddr 2 (.t 5)⟩,
               ⟨some 22, none, .faddr 2 (.t 21)⟩,
               ⟨some 23, none, .load 1 false (.t 22)⟩,
               ⟨some 24, none, .load 10 true (.t 5)⟩,
               ⟨some 25, none, .call false 24 [(.t 24)]⟩,
               ⟨some 26, none, .faddr 2 (.t 5)⟩,
               ⟨some 27, none, .faddr 3 (.t 26)⟩,
               ⟨some 28, none, .load 1 false (.t 27)⟩,
               ⟨some 29, none, .build [(.str []), (.int .i64 0), (.int .i64 0)] [(0, 1, (.t 23)), (1, 1, (.t 25)), (2, 1, (.t 28))]⟩,
               ⟨some 30, none, .bslice false 3 [(.str []), (.int .i64 0), (.int .i64 0)] 1 [(0, (.t 29))]⟩,
               ⟨some 31, none, .append 3 32 (.t 20) (.t 30)⟩,
               ⟨some 3, none, .mov (.t 31)⟩])
              .skip))))
          (.reg [⟨some 32, none, .bin .add (.t 12) (.c (.int .i64 1))⟩,
           ⟨some 12, none, .mov (.t 32)⟩]))))
def c11r0 : AC := (.seq
     (.reg [⟨some 33, none, .mov (.t 3)⟩,
      ⟨some 34, none, .call false 25 [(.t 33), (.c (.fn 26 []))]⟩])
     (.seq
      (.reg [⟨some 6, none, .nilv 3⟩])
      (.seq
       (.seq
        (.reg [⟨some 35, none, .mov (.t 3)⟩,
         ⟨some 36, none, .len (.t 35)⟩,
         ⟨some 37, none, .mov (.c (.int .i64 0))⟩])
        (.block 2
         (.loop [3, 6, 35, 36, 37]
          c11b0)))
       (.seq
        (.reg [⟨some 88, none, .mov (.t 6)⟩,
         ⟨some 2, none, .mov (.t 88)⟩])
        .ret))))
/-- tracebook/counter.Of -/
def c11 : AFn := ⟨1, 89, [.t 2],
 (.seq
  (.reg [⟨some 2, none, .nilv 3⟩])
  (.seq
   (.reg [⟨some 3, none, .nilv 3⟩])
   (.seq
    (.seq
     (.reg [⟨some 10, none, .mov (.t 0)⟩,
      ⟨some 11, none, .len (.t 10)⟩,
      ⟨some 12, none, .mov (.c (.int .i64 0))⟩])
     (.block 0
      (.loop [3, 10, 11, 12]
       c11b1)))
    c11r0))), none⟩
def k11 : List (List Nat) := [[3, 10, 11, 12], [3, 6, 35, 36, 37]]
def o11 : List Nat := [3000000]
def c12b0 : AC := (.seq
        (.seq
         (.reg [⟨some 11, none, .mov (.t 5)⟩,
          ⟨some 12, none, .mov (.t 0)⟩,
          ⟨some 13, none, .len (.t 12)⟩,
          ⟨some 14, none, .bin .lss (.t 11) (.t 13)⟩])
         (.cond (.t 14)
          .skip
          (.exit 0)))
        (.seq
         (.block 1
          (.seq
           (.reg [⟨some 17, none, .mov (.t 0)⟩,
            ⟨some 18, none, .mov (.t 5)⟩,
            ⟨some 19, none, .iaddr (.slice 3) (.t 17) (.t 18)⟩,
            ⟨some 20, none, .load 3 true (.t 19)⟩,
            ⟨some 21, none, .mov (.t 1)⟩,
            ⟨some 22, none, .mov (.t 5)⟩,
            ⟨some 23, none, .iaddr (.slice 3) (.t 21) (.t 22)⟩,
            ⟨some 24, none, .load 3 true (.t 23)⟩,
            ⟨some 25, none, .beqA true [.s, .i, .i] (.t 20) (.t 24)⟩])
           (.cond (.t 25)
            (.seq
             (.reg [⟨some 4, none, .mov (.c (.bool false))⟩])
             .ret)
            .skip)))
         (.reg [⟨some 15, none, .mov (.t 5)⟩,
          ⟨some 16, none, .bin .add (.t 15) (.c (.int .i64 1))⟩,
          ⟨some 5, none, .mov (.t 16)⟩])))
/-- tracebook/tracebookref30.Same -/
def c12 : AFn := ⟨2, 26, [.t 4],
 (.seq
  (.reg [⟨some 4, none, .mov (.c (.bool false))⟩])
  (.seq
   (.seq
    (.reg [⟨some 6, none, .mov (.t 0)⟩,
     ⟨some 7, none, .len (.t 6)⟩,
     ⟨some 8, none, .mov (.t 1)⟩,
     ⟨some 9, none, .len (.t 8)⟩,
     ⟨some 10, none, .bin .neq (.t 7) (.t 9)⟩])
    (.cond (.t 10)
     (.seq
      (.reg [⟨some 4, none, .mov (.c (.bool false))⟩])
      .ret)
     .skip))
   (.seq
    (.seq
     (.reg [⟨some 5, none, .mov (.c (.int .i64 0))⟩])
     (.block 0
      (.loop [0, 1, 5]
       c12b0)))
    (.seq
     (.reg [⟨some 4, none, .mov (.c (.bool true))⟩])
     .ret)))), none⟩
def k12 : List (List Nat) := [[0, 1, 5]]
def o12 : List Nat := [3000000]
def c13b0 : AC := (.seq
        (.seq
         (.reg [⟨some 7, none, .mov (.t 4)⟩,
          ⟨some 8, none, .bin .neq (.t 7) (.c (.str []))⟩])
         (.cond (.t 8)
          .skip
          (.exit 0)))
        (.seq
         (.block 1
          (.reg [⟨some 12, none, .mov (.t 3)⟩,
           ⟨some 13, none, .mov (.t 0)⟩,
           ⟨some 14, none, .mov (.t 4)⟩,
           ⟨some 15, none, .call false 28 [(.t 13), (.t 14)]⟩,
           ⟨some 16, none, .append 3 32 (.t 12) (.t 15)⟩,
           ⟨some 3, none, .mov (.t 16)⟩]))
         (.reg [⟨some 9, none, .mov (.t 0)⟩,
          ⟨some 10, none, .mov (.t 4)⟩,
          ⟨some 11, none, .call false 27 [(.t 9), (.t 10)]⟩,
          ⟨some 4, none, .mov (.t 11)⟩])))
/-- tracebook/tracebookref30.Of -/
def c13 : AFn := ⟨1, 18, [.t 2],
 (.seq
  (.reg [⟨some 2, none, .nilv 3⟩])
  (.seq
   (.reg [⟨some 3, none, .nilv 3⟩])
   (.seq
    (.seq
     (.reg [⟨some 5, none, .mov (.t 0)⟩,
      ⟨some 6, none, .call false 27 [(.t 5), (.c (.str []))]⟩,
      ⟨some 4, none, .mov (.t 6)⟩])
     (.block 0
      (.loop [0, 3, 4]
       c13b0)))
    (.seq
     (.reg [⟨some 17, none, .mov (.t 3)⟩,
      ⟨some 2, none, .mov (.t 17)⟩])
     .ret)))), none⟩
def k13 : List (List Nat) := [[0, 3, 4]]
def o13 : List Nat := [3000000]
def c14b0 : AC := (.seq
       (.reg [⟨some 9, none, .bin .lss (.t 8) (.t 7)⟩])
       (.seq
        (.cond (.t 9)
         .skip
         (.exit 0))
        (.seq
         (.block 1
          (.seq
           (.reg [⟨some 10, none, .mov (.t 8)⟩,
            ⟨some 11, none, .iaddr (.slice 3) (.t 6) (.t 8)⟩,
            ⟨some 12, none, .load 3 true (.t 11)⟩,
            ⟨some 4, none, .alloc [(.str []), (.int .i64 0), (.int .i64 0)]⟩,
            ⟨some 3, none, .mov (.t 10)⟩,
            ⟨none, none, .store 3 (.t 4) (.t 12)⟩])
           (.seq
            (.seq
             (.reg [⟨some 13, none, .faddr 0 (.t 4)⟩,
              ⟨some 14, none, .load 1 false (.t 13)⟩,
              ⟨some 15, none, .call false 29 [(.t 14)]⟩,
              ⟨some 5, none, .mov (.t 15)⟩])
             (.seq
              (.reg [⟨some 16, none, .mov (.t 5)⟩,
               ⟨some 17, none, .bin .neq (.t 16) (.c (.int .i64 0))⟩])
              (.cond (.t 17)
               (.seq
                (.reg [⟨some 18, none, .mov (.t 5)⟩,
                 ⟨some 2, none, .mov (.t 18)⟩])
                .ret)
               .skip)))
            (.seq
             (.seq
              (.reg [⟨some 19, none, .faddr 1 (.t 4)⟩,
               ⟨some 20, none, .load 1 false (.t 19)⟩,
               ⟨some 21, none, .bin .lss (.t 20) (.c (.int .i64 0))⟩,
               ⟨some 22, none, .mov (.t 21)⟩,
               ⟨some 23, some (22, false), .faddr 1 (.t 4)⟩,
               ⟨some 24, some (22, false), .load 1 false (.t 23)⟩,
               ⟨some 25, some (22, false), .bin .gtr (.t 24) (.c (.int .i64 1000000000000))⟩,
               ⟨some 26, none, .pick (.t 22) (.c (.bool true)) (.t 25)⟩,
               ⟨some 27, none, .mov (.t 26)⟩,
               ⟨some 28, some (27, false), .faddr 2 (.t 4)⟩,
               ⟨some 29, some (27, false), .load 1 false (.t 28)⟩,
               ⟨some 30, some (27, false), .call false 30 [(.t 29)]⟩,
               ⟨some 31, some (27, false), .un .not (.t 30)⟩,
               ⟨some 32, none, .pick (.t 27) (.c (.bool true)) (.t 31)⟩])
              (.cond (.t 32)
               (.seq
                (.reg [⟨some 2, none, .mov (.c (.int .i64 2))⟩])
                .ret)
               .skip))
             (.seq
              (.reg [⟨some 33, none, .mov (.t 3)⟩,
               ⟨some 34, none, .bin .gtr (.t 33) (.c (.int .i64 0))⟩,
               ⟨some 35, none, .mov (.t 34)⟩,
               ⟨some 36, some (35, true), .mov (.t 0)⟩,
               ⟨some 37, some (35, true), .mov (.t 3)⟩,
               ⟨some 38, some (35, true), .bin .sub (.t 37) (.c (.int .i64 1))⟩,
               ⟨some 39, some (35, true), .iaddr (.slice 3) (.t 36) (.t 38)⟩,
               ⟨some 40, some (35, true), .load 3 true (.t 39)⟩,
               ⟨some 41, some (35, true), .load 3 true (.t 4)⟩,
               ⟨some 42, some (35, true), .call false 26 [(.t 40), (.t 41)]⟩,
               ⟨some 43, some (35, true), .bin .geq (.t 42) (.c (.int .i64 0))⟩,
               ⟨some 44, some (35, true), .mov (.t 43)⟩,
               ⟨some 45, some (44, false), .mov (.t 0)⟩,
               ⟨some 46, some (44, false), .mov (.t 3)⟩,
               ⟨some 47, some (44, false), .bin .sub (.t 46) (.c (.int .i64 1))⟩,
               ⟨some 48, some (44, false), .iaddr (.slice 3) (.t 45) (.t 47)⟩,
               ⟨some 49, some (44, false), .faddr 0 (.t 48)⟩,
               ⟨some 50, some (44, false), .load 1 false (.t 49)⟩,
               ⟨some 51, some (44, false), .faddr 0 (.t 4)⟩,
               ⟨some 52, some (44, false), .load 1 false (.t 51)⟩,
               ⟨some 53, some (44, false), .bin .eql (.t 50) (.t 52)⟩,
               ⟨some 54, some (44, false), .mov (.t 53)⟩,
               ⟨some 55, some (54, true), .mov (.t 0)⟩,
               ⟨some 56, some (54, true), .mov (.t 3)⟩,
               ⟨some 57, some (54, true), .bin .sub (.t 56) (.c (.int .i64 1))⟩,
               ⟨some 58, some (54, true), .iaddr (.slice 3) (.t 55) (.t 57)⟩,
               ⟨some 59, some (54, true), .faddr 2 (.t 58)⟩,
               ⟨some 60, some (54, true), .load 1 false (.t 59)⟩,
               ⟨some 61, some (54, true), .faddr 2 (.t 4)⟩,
               ⟨some 62, some (54, true), .load 1 false (.t 61)⟩,
               ⟨some 63, some (54, true), .bin .eql (.t 60) (.t 62)⟩,
               ⟨some 64, some (44, false), .pick (.t 54) (.t 63) (.c (.bool false))⟩,
               ⟨some 65, some (35, true), .pick (.t 44) (.c (.bool true)) (.t 64)⟩,
               ⟨some 66, none, .pick (.t 35) (.t 65) (.c (.bool false))⟩])
              (.cond (.t 66)
               (.seq
                (.reg [⟨some 2, none, .mov (.c (.int .i64 11))⟩])
                .ret)
               .skip))))))
         (.reg [⟨some 67, none, .bin .add (.t 8) (.c (.int .i64 1))⟩,
          ⟨some 8, none, .mov (.t 67)⟩]))))
/-- tracebook/counter.Check -/
def c14 : AFn := ⟨1, 68, [.t 2],
 (.seq
  (.reg [⟨some 2, none, .mov (.c (.int .i64 0))⟩])
  (.seq
   (.seq
    (.reg [⟨some 6, none, .mov (.t 0)⟩,
     ⟨some 7, none, .len (.t 6)⟩,
     ⟨some 8, none, .mov (.c (.int .i64 0))⟩])
    (.block 0
     (.loop [0, 6, 7, 8]
      c14b0)))
   (.seq
    (.reg [⟨some 2, none, .mov (.c (.int .i64 0))⟩])
    .ret))), none⟩
def k14 : List (List Nat) := [[0, 6, 7, 8]]
def o14 : List Nat := [3000000]
def c15b0 : AC := (.seq
        (.reg [⟨some 15, none, .bin .lss (.t 14) (.t 13)⟩])
        (.seq
         (.cond (.t 15)
          .skip
          (.exit 0))
         (.seq
          (.block 1
           (.seq
            (.reg [⟨some 16, none, .iaddr (.slice 3) (.t 12) (.t 14)⟩,
             ⟨some 17, none, .load 3 true (.t 16)⟩,
             ⟨some 11, none, .alloc [(.str []), (.int .i64 0), (.int .i64 0)]⟩,
             ⟨none, none, .store 3 (.t 11) (.t 17)⟩])
            (.seq
             (.reg [⟨some 18, none, .faddr 0 (.t 11)⟩,
              ⟨some 19, none, .load 1 false (.t 18)⟩,
              ⟨some 20, none, .mov (.t 1)⟩,
              ⟨some 21, none, .bin .eql (.t 19) (.t 20)⟩,
              ⟨some 22, none, .mov (.t 21)⟩,
              ⟨some 23, some (22, true), .faddr 1 (.t 11)⟩,
              ⟨some 24, some (22, true), .load 1 false (.t 23)⟩,
              ⟨some 25, some (22, true), .mov (.t 2)⟩,
              ⟨some 26, some (22, true), .bin .leq (.t 24) (.t 25)⟩,
              ⟨some 27, none, .pick (.t 22) (.t 26) (.c (.bool false))⟩])
             (.cond (.t 27)
              (.reg [⟨some 28, none, .faddr 2 (.t 11)⟩,
               ⟨some 29, none, .load 1 false (.t 28)⟩,
               ⟨some 8, none, .mov (.t 29)⟩,
               ⟨some 9, none, .mov (.c (.bool true))⟩])
              .skip))))
          (.reg [⟨some 30, none, .bin .add (.t 14) (.c (.int .i64 1))⟩,
           ⟨some 14, none, .mov (.t 30)⟩]))))
/-- tracebook/counter.At -/
def c15 : AFn := ⟨3, 33, [.t 6, .t 7],
 (.seq
  (.reg [⟨some 6, none, .mov (.c (.int .i64 0))⟩,
   ⟨some 7, none, .mov (.c (.bool false))⟩])
  (.seq
   (.reg [⟨some 8, none, .mov (.c (.int .i64 0))⟩,
    ⟨some 9, none, .mov (.c (.bool false))⟩])
   (.seq
    (.seq
     (.reg [⟨some 12, none, .mov (.t 0)⟩,
      ⟨some 13, none, .len (.t 12)⟩,
      ⟨some 14, none, .mov (.c (.int .i64 0))⟩])
     (.block 0
      (.loop [1, 2, 8, 9, 12, 13, 14]
       c15b0)))
    (.seq
     (.reg [⟨some 31, none, .mov (.t 8)⟩,
      ⟨some 32, none, .mov (.t 9)⟩,
      ⟨some 6, none, .mov (.t 31)⟩,
      ⟨some 7, none, .mov (.t 32)⟩])
     .ret)))), none⟩
def k15 : List (List Nat) := [[1, 2, 8, 9, 12, 13, 14]]
def o15 : List Nat := [3000000]
def c16b0 : AC := (.seq
       (.seq
        (.reg [⟨some 5, none, .mov (.t 3)⟩,
         ⟨some 6, none, .mov (.t 0)⟩,
         ⟨some 7, none, .len (.t 6)⟩,
         ⟨some 8, none, .bin .lss (.t 5) (.t 7)⟩])
        (.cond (.t 8)
         .skip
         (.exit 0)))
       (.seq
        (.block 1
         (.seq
          (.reg [⟨some 11, none, .mov (.t 0)⟩,
           ⟨some 12, none, .mov (.t 3)⟩,
           ⟨some 13, none, .iaddr (.slice 3) (.t 11) (.t 12)⟩,
           ⟨some 14, none, .faddr 0 (.t 13)⟩,
           ⟨some 15, none, .load 1 false (.t 14)⟩,
           ⟨some 16, none, .call false 31 [(.t 15)]⟩,
           ⟨some 4, none, .mov (.t 16)⟩])
          (.seq
           (.seq
            (.reg [⟨some 17, none, .mov (.t 4)⟩,
             ⟨some 18, none, .bin .neq (.t 17) (.c (.int .i64 0))⟩])
            (.cond (.t 18)
             (.seq
              (.reg [⟨some 19, none, .mov (.t 4)⟩,
               ⟨some 2, none, .mov (.t 19)⟩])
              .ret)
             .skip))
           (.seq
            (.seq
             (.reg [⟨some 20, none, .mov (.t 0)⟩,
              ⟨some 21, none, .mov (.t 3)⟩,
              ⟨some 22, none, .iaddr (.slice 3) (.t 20) (.t 21)⟩,
              ⟨some 23, none, .faddr 1 (.t 22)⟩,
              ⟨some 24, none, .load 1 false (.t 23)⟩,
              ⟨some 25, none, .bin .lss (.t 24) (.c (.int .i64 0))⟩,
              ⟨some 26, none, .mov (.t 25)⟩,
              ⟨some 27, some (26, false), .mov (.t 0)⟩,
              ⟨some 28, some (26, false), .mov (.t 3)⟩,
              ⟨some 29, some (26, false), .iaddr (.slice 3) (.t 27) (.t 28)⟩,
              ⟨some 30, some (26, false), .faddr 1 (.t 29)⟩,
              ⟨some 31, some (26, false), .load 1 false (.t 30)⟩,
              ⟨some 32, some (26, false), .bin .gtr (.t 31) (.c (.int .i64 1000000000000))⟩,
              ⟨some 33, none, .pick (.t 26) (.c (.bool true)) (.t 32)⟩,
              ⟨some 34, none, .mov (.t 33)⟩,
              ⟨some 35, some (34, false), .mov (.t 0)⟩,
              ⟨some 36, some (34, false), .mov (.t 3)⟩,
              ⟨some 37, some (34, false), .iaddr (.slice 3) (.t 35) (.t 36)⟩,
              ⟨some 38, some (34, false), .faddr 2 (.t 37)⟩,
              ⟨some 39, some (34, false), .load 1 false (.t 38)⟩,
              ⟨some 40, some (34, false), .bin .lss (.t 39) (.c (.int .i64 (-1000000000000000)))⟩,
              ⟨some 41, none, .pick (.t 34) (.c (.bool true)) (.t 40)⟩,
              ⟨some 42, none, .mov (.t 41)⟩,
              ⟨some 43, some (42, false), .mov (.t 0)⟩,
              ⟨some 44, some (42, false), .mov (.t 3)⟩,
              ⟨some 45, some (42, false), .iaddr (.slice 3) (.t 43) (.t 44)⟩,
              ⟨some 46, some (42, false), .faddr 2 (.t 45)⟩,
              ⟨some 47, some (42, false), .load 1 false (.t 46)⟩,
              ⟨some 48, some (42, false), .bin .gtr (.t 47) (.c (.int .i64 1000000000000000))⟩,
              ⟨some 49, none, .pick (.t 42) (.c (.bool true)) (.t 48)⟩])
             (.cond (.t 49)
              (.seq
               (.reg [⟨some 2, none, .mov (.c (.int .i64 2))⟩])
               .ret)
              .skip))
            (.seq
             (.reg [⟨some 50, none, .mov (.t 3)⟩,
              ⟨some 51, none, .bin .gtr (.t 50) (.c (.int .i64 0))⟩,
              ⟨some 52, none, .mov (.t 51)⟩,
              ⟨some 53, some (52, true), .mov (.t 0)⟩,
              ⟨some 54, some (52, true), .mov (.t 3)⟩,
              ⟨some 55, some (52, true), .iaddr (.slice 3) (.t 53) (.t 54)⟩,
              ⟨some 56, some (52, true), .faddr 0 (.t 55)⟩,
              ⟨some 57, some (52, true), .load 1 false (.t 56)⟩,
              ⟨some 58, some (52, true), .mov (.t 0)⟩,
              ⟨some 59, some (52, true), .mov (.t 3)⟩,
              ⟨some 60, some (52, true), .bin .sub (.t 59) (.c (.int .i64 1))⟩,
              ⟨some 61, some (52, true), .iaddr (.slice 3) (.t 58) (.t 60)⟩,
              ⟨some 62, some (52, true), .faddr 0 (.t 61)⟩,
              ⟨some 63, some (52, true), .load 1 false (.t 62)⟩,
              ⟨some 64, some (52, true), .bin .lss (.t 57) (.t 63)⟩,
              ⟨some 65, some (52, true), .mov (.t 64)⟩,
              ⟨some 66, some (65, false), .mov (.t 0)⟩,
              ⟨some 67, some (65, false), .mov (.t 3)⟩,
              ⟨some 68, some (65, false), .iaddr (.slice 3) (.t 66) (.t 67)⟩,
              ⟨some 69, some (65, false), .faddr 0 (.t 68)⟩,
              ⟨some 70, some (65, false), .load 1 false (.t 69)⟩,
              ⟨some 71, some (65, false), .mov (.t 0)⟩,
              ⟨some 72, some (65, false), .mov (.t 3)⟩,
              ⟨some 73, some (65, false), .bin .sub (.t 72) (.c (.int .i64 1))⟩,
              ⟨some 74, some (65, false), .iaddr (.slice 3) (.t 71) (.t 73)⟩,
              ⟨some 75, some (65, false), .faddr 0 (.t 74)⟩,
              ⟨some 76, some (65, false), .load 1 false (.t 75)⟩,
              ⟨some 77, some (65, false), .bin .eql (.t 70) (.t 76)⟩,
              ⟨some 78, some (65, false), .mov (.t 77)⟩,
              ⟨some 79, some (78, true), .mov (.t 0)⟩,
              ⟨some 80, some (78, true), .mov (.t 3)⟩,
              ⟨some 81, some (78, true), .iaddr (.slice 3) (.t 79) (.t 80)⟩,
              ⟨some 82, some (78, true), .faddr 1 (.t 81)⟩,
              ⟨some 83, some (78, true), .load 1 false (.t 82)⟩,
              ⟨some 84, some (78, true), .mov (.t 0)⟩,
              ⟨some 85, some (78, true), .mov (.t 3)⟩,
              ⟨some 86, some (78, true), .bin .sub (.t 85) (.c (.int .i64 1))⟩,
              ⟨some 87, some (78, true), .iaddr (.slice 3) (.t 84) (.t 86)⟩,
              ⟨some 88, some (78, true), .faddr 1 (.t 87)⟩,
              ⟨some 89, some (78, true), .load 1 false (.t 88)⟩,
              ⟨some 90, some (78, true), .bin .leq (.t 83) (.t 89)⟩,
              ⟨some 91, some (78, true), .mov (.t 90)⟩,
              ⟨some 92, some (91, false), .mov (.t 0)⟩,
              ⟨some 93, some (91, false), .mov (.t 3)⟩,
              ⟨some 94, some (91, false), .iaddr (.slice 3) (.t 92) (.t 93)⟩,
              ⟨some 95, some (91, false), .faddr 2 (.t 94)⟩,
              ⟨some 96, some (91, false), .load 1 false (.t 95)⟩,
              ⟨some 97, some (91, false), .mov (.t 0)⟩,
              ⟨some 98, some (91, false), .mov (.t 3)⟩,
              ⟨some 99, some (91, false), .bin .sub (.t 98) (.c (.int .i64 1))⟩,
              ⟨some 100, some (91, false), .iaddr (.slice 3) (.t 97) (.t 99)⟩,
              ⟨some 101, some (91, false), .faddr 2 (.t 100)⟩,
              ⟨some 102, some (91, false), .load 1 false (.t 101)⟩,
              ⟨some 103, some (91, false), .bin .eql (.t 96) (.t 102)⟩,
              ⟨some 104, some (78, true), .pick (.t 91) (.c (.bool true)) (.t 103)⟩,
              ⟨some 105, some (65, false), .pick (.t 78) (.t 104) (.c (.bool false))⟩,
              ⟨some 106, some (52, true), .pick (.t 65) (.c (.bool true)) (.t 105)⟩,
              ⟨some 107, none, .pick (.t 52) (.t 106) (.c (.bool false))⟩])
             (.cond (.t 107)
              (.seq
               (.reg [⟨some 2, none, .mov (.c (.int .i64 11))⟩])
               .ret)
              .skip))))))
        (.reg [⟨some 9, none, .mov (.t 3)⟩,
         ⟨some 10, none, .bin .add (.t 9) (.c (.int .i64 1))⟩,
         ⟨some 3, none, .mov (.t 10)⟩])))
/-- tracebook/tracebookref30.Check -/
def c16 : AFn := ⟨1, 108, [.t 2],
 (.seq
  (.reg [⟨some 2, none, .mov (.c (.int .i64 0))⟩])
  (.seq
   (.seq
    (.reg [⟨some 3, none, .mov (.c (.int .i64 0))⟩])
    (.block 0
     (.loop [0, 3]
      c16b0)))
   (.seq
    (.reg [⟨some 2, none, .mov (.c (.int .i64 0))⟩])
    .ret))), none⟩
def k16 : List (List Nat) := [[0, 3]]
def o16 : List Nat := [3000000]
def c17b0 : AC := (.seq
        (.seq
         (.reg [⟨some 11, none, .mov (.t 10)⟩,
          ⟨some 12, none, .mov (.t 0)⟩,
          ⟨some 13, none, .len (.t 12)⟩,
          ⟨some 14, none, .bin .lss (.t 11) (.t 13)⟩])
         (.cond (.t 14)
          .skip
          (.exit 0)))
        (.seq
         (.block 1
          (.seq
           (.reg [⟨some 17, none, .mov (.t 0)⟩,
            ⟨some 18, none, .mov (.t 10)⟩,
            ⟨some 19, none, .iaddr (.slice 3) (.t 17) (.t 18)⟩,
            ⟨some 20, none, .faddr 0 (.t 19)⟩,
            ⟨some 21, none, .load 1 false (.t 20)⟩,
            ⟨some 22, none, .mov (.t 1)⟩,
            ⟨some 23, none, .bin .eql (.t 21) (.t 22)⟩,
            ⟨some 24, none, .mov (.t 23)⟩,
            ⟨some 25, some (24, true), .mov (.t 0)⟩,
            ⟨some 26, some (24, true), .mov (.t 10)⟩,
            ⟨some 27, some (24, true), .iaddr (.slice 3) (.t 25) (.t 26)⟩,
            ⟨some 28, some (24, true), .faddr 1 (.t 27)⟩,
            ⟨some 29, some (24, true), .load 1 false (.t 28)⟩,
            ⟨some 30, some (24, true), .mov (.t 2)⟩,
            ⟨some 31, some (24, true), .bin .leq (.t 29) (.t 30)⟩,
            ⟨some 32, none, .pick (.t 24) (.t 31) (.c (.bool false))⟩])
           (.cond (.t 32)
            (.seq
             (.reg [⟨some 33, none, .mov (.t 0)⟩,
              ⟨some 34, none, .mov (.t 10)⟩,
              ⟨some 35, none, .iaddr (.slice 3) (.t 33) (.t 34)⟩,
              ⟨some 36, none, .faddr 2 (.t 35)⟩,
              ⟨some 37, none, .load 1 false (.t 36)⟩,
              ⟨some 8, none, .mov (.t 37)⟩])
             (.reg [⟨some 9, none, .mov (.c (.bool true))⟩]))
            .skip)))
         (.reg [⟨some 15, none, .mov (.t 10)⟩,
          ⟨some 16, none, .bin .add (.t 15) (.c (.int .i64 1))⟩,
          ⟨some 10, none, .mov (.t 16)⟩])))
/-- tracebook/tracebookref30.At -/
def c17 : AFn := ⟨3, 40, [.t 6, .t 7],
 (.seq
  (.reg [⟨some 6, none, .mov (.c (.int .i64 0))⟩,
   ⟨some 7, none, .mov (.c (.bool false))⟩])
  (.seq
   (.reg [⟨some 8, none, .mov (.c (.int .i64 0))⟩,
    ⟨some 9, none, .mov (.c (.bool false))⟩])
   (.seq
    (.seq
     (.reg [⟨some 10, none, .mov (.c (.int .i64 0))⟩])
     (.block 0
      (.loop [0, 1, 2, 8, 9, 10]
       c17b0)))
    (.seq
     (.reg [⟨some 38, none, .mov (.t 8)⟩,
      ⟨some 39, none, .mov (.t 9)⟩,
      ⟨some 6, none, .mov (.t 38)⟩,
      ⟨some 7, none, .mov (.t 39)⟩])
     .ret)))), none⟩
def k17 : List (List Nat) := [[0, 1, 2, 8, 9, 10]]
def o17 : List Nat := [3000000]
def c18b0 : AC := (.seq
        (.reg [⟨some 14, none, .bin .lss (.t 13) (.t 12)⟩])
        (.seq
         (.cond (.t 14)
          .skip
          (.exit 0))
         (.seq
          (.block 1
           (.seq
            (.reg [⟨some 15, none, .iaddr (.slice 3) (.t 11) (.t 13)⟩,
             ⟨some 16, none, .load 3 true (.t 15)⟩,
             ⟨some 9, none, .alloc [(.str []), (.int .i64 0), (.int .i64 0)]⟩,
             ⟨none, none, .store 3 (.t 9) (.t 16)⟩])
            (.seq
             (.reg [⟨some 17, none, .faddr 0 (.t 9)⟩,
              ⟨some 18, none, .load 1 false (.t 17)⟩,
              ⟨some 19, none, .mov (.t 1)⟩,
              ⟨some 20, none, .bin .eql (.t 18) (.t 19)⟩,
              ⟨some 21, none, .mov (.t 20)⟩,
              ⟨some 22, some (21, true), .mov (.t 7)⟩,
              ⟨some 23, some (21, true), .un .not (.t 22)⟩,
              ⟨some 24, some (21, true), .mov (.t 23)⟩,
              ⟨some 25, some (24, false), .faddr 2 (.t 9)⟩,
              ⟨some 26, some (24, false), .load 1 false (.t 25)⟩,
              ⟨some 27, some (24, false), .faddr 2 (.t 6)⟩,
              ⟨some 28, some (24, false), .load 1 false (.t 27)⟩,
              ⟨some 29, some (24, false), .bin .gtr (.t 26) (.t 28)⟩,
              ⟨some 30, some (21, true), .pick (.t 24) (.c (.bool true)) (.t 29)⟩,
              ⟨some 31, none, .pick (.t 21) (.t 30) (.c (.bool false))⟩])
             (.cond (.t 31)
              (.reg [⟨some 32, none, .load 3 true (.t 9)⟩,
               ⟨none, none, .store 3 (.t 6) (.t 32)⟩,
               ⟨some 7, none, .mov (.c (.bool true))⟩])
              .skip))))
          (.reg [⟨some 33, none, .bin .add (.t 13) (.c (.int .i64 1))⟩,
           ⟨some 13, none, .mov (.t 33)⟩]))))
/-- tracebook/counter.Peak -/
def c18 : AFn := ⟨2, 36, [.c 4 3 true, .t 5],
 (.seq
  (.reg [⟨some 4, none, .alloc [(.str []), (.int .i64 0), (.int .i64 0)]⟩,
   ⟨some 5, none, .mov (.c (.bool false))⟩])
  (.seq
   (.reg [⟨some 10, none, .build [(.str []), (.int .i64 0), (.int .i64 0)] []⟩,
    ⟨some 6, none, .alloc [(.str []), (.int .i64 0), (.int .i64 0)]⟩,
    ⟨none, none, .store 3 (.t 6) (.t 10)⟩,
    ⟨some 7, none, .mov (.c (.bool false))⟩])
   (.seq
    (.seq
     (.reg [⟨some 11, none, .mov (.t 0)⟩,
      ⟨some 12, none, .len (.t 11)⟩,
      ⟨some 13, none, .mov (.c (.int .i64 0))⟩])
     (.block 0
      (.loop [1, 4, 6, 7, 11, 12, 13]
       c18b0)))
    (.seq
     (.reg [⟨some 34, none, .load 3 true (.t 6)⟩,
      ⟨some 35, none, .mov (.t 7)⟩,
      ⟨none, none, .store 3 (.t 4) (.t 34)⟩,
      ⟨some 5, none, .mov (.t 35)⟩])
     .ret)))), none⟩
def k18 : List (List Nat) := [[1, 4, 6, 7, 11, 12, 13]]
def o18 : List Nat := [3000000]
def c19b0 : AC := (.seq
        (.seq
         (.reg [⟨some 8, none, .mov (.t 7)⟩,
          ⟨some 9, none, .mov (.t 0)⟩,
          ⟨some 10, none, .len (.t 9)⟩,
          ⟨some 11, none, .bin .lss (.t 8) (.t 10)⟩])
         (.cond (.t 11)
          .skip
          (.exit 0)))
        (.seq
         (.block 1
          (.seq
           (.reg [⟨some 14, none, .mov (.t 0)⟩,
            ⟨some 15, none, .mov (.t 7)⟩,
            ⟨some 16, none, .iaddr (.slice 3) (.t 14) (.t 15)⟩,
            ⟨some 17, none, .faddr 0 (.t 16)⟩,
            ⟨some 18, none, .load 1 false (.t 17)⟩,
            ⟨some 19, none, .mov (.t 1)⟩,
            ⟨some 20, none, .bin .eql (.t 18) (.t 19)⟩,
            ⟨some 21, none, .mov (.t 20)⟩,
            ⟨some 22, some (21, true), .mov (.t 6)⟩,
            ⟨some 23, some (21, true), .bin .lss (.t 22) (.c (.int .i64 0))⟩,
            ⟨some 24, some (21, true), .mov (.t 23)⟩,
            ⟨some 25, some (24, false), .mov (.t 0)⟩,
            ⟨some 26, some (24, false), .mov (.t 7)⟩,
            ⟨some 27, some (24, false), .iaddr (.slice 3) (.t 25) (.t 26)⟩,
            ⟨some 28, some (24, false), .faddr 2 (.t 27)⟩,
            ⟨some 29, some (24, false), .load 1 false (.t 28)⟩,
            ⟨some 30, some (24, false), .mov (.t 0)⟩,
            ⟨some 31, some (24, false), .mov (.t 6)⟩,
            ⟨some 32, some (24, false), .iaddr (.slice 3) (.t 30) (.t 31)⟩,
            ⟨some 33, some (24, false), .faddr 2 (.t 32)⟩,
            ⟨some 34, some (24, false), .load 1 false (.t 33)⟩,
            ⟨some 35, some (24, false), .bin .gtr (.t 29) (.t 34)⟩,
            ⟨some 36, some (21, true), .pick (.t 24) (.c (.bool true)) (.t 35)⟩,
            ⟨some 37, none, .pick (.t 21) (.t 36) (.c (.bool false))⟩])
           (.cond (.t 37)
            (.reg [⟨some 38, none, .mov (.t 7)⟩,
             ⟨some 6, none, .mov (.t 38)⟩])
            .skip)))
         (.reg [⟨some 12, none, .mov (.t 7)⟩,
          ⟨some 13, none, .bin .add (.t 12) (.c (.int .i64 1))⟩,
          ⟨some 7, none, .mov (.t 13)⟩])))
/-- tracebook/tracebookref30.Peak -/
def c19 : AFn := ⟨2, 46, [.c 4 3 true, .t 5],
 (.seq
  (.reg [⟨some 4, none, .alloc [(.str []), (.int .i64 0), (.int .i64 0)]⟩,
   ⟨some 5, none, .mov (.c (.bool false))⟩])
  (.seq
   (.reg [⟨some 6, none, .mov (.c (.int .i64 (-1)))⟩])
   (.seq
    (.seq
     (.reg [⟨some 7, none, .mov (.c (.int .i64 0))⟩])
     (.block 0
      (.loop [0, 1, 4, 6, 7]
       c19b0)))
    (.seq
     (.seq
      (.reg [⟨some 39, none, .mov (.t 6)⟩,
       ⟨some 40, none, .bin .lss (.t 39) (.c (.int .i64 0))⟩])
      (.cond (.t 40)
       (.seq
        (.reg [⟨some 41, none, .build [(.str []), (.int .i64 0), (.int .i64 0)] []⟩,
         ⟨none, none, .store 3 (.t 4) (.t 41)⟩,
         ⟨some 5, none, .mov (.c (.bool false))⟩])
        .ret)
       .skip))
     (.seq
      (.reg [⟨some 42, none, .mov (.t 0)⟩,
       ⟨some 43, none, .mov (.t 6)⟩,
       ⟨some 44, none, .iaddr (.slice 3) (.t 42) (.t 43)⟩,
       ⟨some 45, none, .load 3 true (.t 44)⟩,
       ⟨none, none, .store 3 (.t 4) (.t 45)⟩,
       ⟨some 5, none, .mov (.c (.bool true))⟩])
      .ret))))), none⟩
def k19 : List (List Nat) := [[0, 1, 4, 6, 7]]
def o19 : List Nat := [3000000]
def c20b0 : AC := (.seq
          (.reg [⟨some 33, none, .bin .lss (.t 32) (.t 31)⟩])
          (.seq
           (.cond (.t 33)
            .skip
            (.exit 0))
           (.seq
            (.block 1
             (.seq
              (.reg [⟨some 34, none, .iaddr (.slice 3) (.t 30) (.t 32)⟩,
               ⟨some 35, none, .load 3 true (.t 34)⟩,
               ⟨some 12, none, .alloc [(.str []), (.int .i64 0), (.int .i64 0)]⟩,
               ⟨none, none, .store 3 (.t 12) (.t 35)⟩])
              (.seq
               (.seq
                (.reg [⟨some 36, none, .faddr 0 (.t 12)⟩,
                 ⟨some 37, none, .load 1 false (.t 36)⟩,
                 ⟨some 38, none, .mov (.t 1)⟩,
                 ⟨some 39, none, .bin .neq (.t 37) (.t 38)⟩,
                 ⟨some 40, none, .mov (.t 39)⟩,
                 ⟨some 41, some (40, false), .faddr 1 (.t 12)⟩,
                 ⟨some 42, some (40, false), .load 1 false (.t 41)⟩,
                 ⟨some 43, some (40, false), .faddr 1 (.t 5)⟩,
                 ⟨some 44, some (40, false), .load 1 false (.t 43)⟩,
                 ⟨some 45, some (40, false), .bin .geq (.t 42) (.t 44)⟩,
                 ⟨some 46, none, .pick (.t 40) (.c (.bool true)) (.t 45)⟩])
                (.cond (.t 46)
                 (.exit 1)
                 .skip))
               (.seq
                (.seq
                 (.reg [⟨some 47, none, .faddr 1 (.t 12)⟩,
                  ⟨some 48, none, .load 1 false (.t 47)⟩,
                  ⟨some 49, none, .mov (.t 10)⟩,
                  ⟨some 50, none, .bin .gtr (.t 48) (.t 49)⟩])
                 (.cond (.t 50)
                  (.seq
                   (.reg [⟨some 51, none, .load 2 true (.t 8)⟩,
                    ⟨some 52, none, .mov (.t 9)⟩,
                    ⟨some 53, none, .faddr 1 (.t 12)⟩,
                    ⟨some 54, none, .load 1 false (.t 53)⟩,
                    ⟨some 55, none, .mov (.t 10)⟩,
                    ⟨some 56, none, .bin .sub (.t 54) (.t 55)⟩,
                    ⟨some 57, none, .call false 32 [(.t 51), (.t 52), (.t 56)]⟩,
                    ⟨none, none, .store 2 (.t 8) (.t 57)⟩])
                   (.reg [⟨some 58, none, .faddr 1 (.t 12)⟩,
                    ⟨some 59, none, .load 1 false (.t 58)⟩,
                    ⟨some 10, none, .mov (.t 59)⟩]))
                  .skip))
                (.reg [⟨some 60, none, .faddr 2 (.t 12)⟩,
                 ⟨some 61, none, .load 1 false (.t 60)⟩,
                 ⟨some 9, none, .mov (.t 61)⟩])))))
            (.reg [⟨some 62, none, .bin .add (.t 32) (.c (.int .i64 1))⟩,
             ⟨some 32, none, .mov (.t 62)⟩]))))
def c20r0 : AC := (.seq
       (.reg [⟨some 63, none, .load 2 true (.t 8)⟩,
        ⟨some 64, none, .mov (.t 9)⟩,
        ⟨some 65, none, .faddr 1 (.t 5)⟩,
        ⟨some 66, none, .load 1 false (.t 65)⟩,
        ⟨some 67, none, .mov (.t 10)⟩,
        ⟨some 68, none, .bin .sub (.t 66) (.t 67)⟩,
        ⟨some 69, none, .call false 32 [(.t 63), (.t 64), (.t 68)]⟩,
        ⟨some 70, none, .call false 33 [(.t 69)]⟩,
        ⟨some 71, none, .ext (.t 70) 0⟩,
        ⟨some 72, none, .ext (.t 70) 1⟩,
        ⟨some 6, none, .mov (.t 71)⟩,
        ⟨some 7, none, .mov (.t 72)⟩])
       .ret)
/-- tracebook/counter.Integral -/
def c20 : AFn := ⟨3, 73, [.t 6, .t 7],
 (.seq
  (.reg [⟨some 5, none, .box (.t 2)⟩,
   ⟨some 6, none, .mov (.c (.int .i64 0))⟩,
   ⟨some 7, none, .mov (.c (.bool false))⟩])
  (.seq
   (.seq
    (.reg [⟨some 13, none, .faddr 0 (.t 5)⟩,
     ⟨some 14, none, .load 1 false (.t 13)⟩,
     ⟨some 15, none, .bin .lss (.t 14) (.c (.int .i64 0))⟩,
     ⟨some 16, none, .mov (.t 15)⟩,
     ⟨some 17, some (16, false), .faddr 0 (.t 5)⟩,
     ⟨some 18, some (16, false), .load 1 false (.t 17)⟩,
     ⟨some 19, some (16, false), .faddr 1 (.t 5)⟩,
     ⟨some 20, some (16, false), .load 1 false (.t 19)⟩,
     ⟨some 21, some (16, false), .bin .geq (.t 18) (.t 20)⟩,
     ⟨some 22, none, .pick (.t 16) (.c (.bool true)) (.t 21)⟩,
     ⟨some 23, none, .mov (.t 22)⟩,
     ⟨some 24, some (23, false), .faddr 1 (.t 5)⟩,
     ⟨some 25, some (23, false), .load 1 false (.t 24)⟩,
     ⟨some 26, some (23, false), .bin .gtr (.t 25) (.c (.int .i64 1000000000000))⟩,
     ⟨some 27, none, .pick (.t 23) (.c (.bool true)) (.t 26)⟩])
    (.cond (.t 27)
     (.seq
      (.reg [⟨some 6, none, .mov (.c (.int .i64 0))⟩,
       ⟨some 7, none, .mov (.c (.bool false))⟩])
      .ret)
     .skip))
   (.seq
    (.reg [⟨some 8, none, .alloc [(.int .u64 0), (.int .u64 0)]⟩])
    (.seq
     (.reg [⟨some 28, none, .faddr 0 (.t 5)⟩,
      ⟨some 29, none, .load 1 false (.t 28)⟩,
      ⟨some 9, none, .mov (.c (.int .i64 0))⟩,
      ⟨some 10, none, .mov (.t 29)⟩])
     (.seq
      (.seq
       (.reg [⟨some 30, none, .mov (.t 0)⟩,
        ⟨some 31, none, .len (.t 30)⟩,
        ⟨some 32, none, .mov (.c (.int .i64 0))⟩])
       (.block 0
        (.loop [1, 5, 8, 9, 10, 30, 31, 32]
         c20b0)))
      c20r0))))), none⟩
def k20 : List (List Nat) := [[1, 5, 8, 9, 10, 30, 31, 32]]
def o20 : List Nat := [3000000]
def c21b0 : AC := (.seq
         (.seq
          (.reg [⟨some 16, none, .mov (.t 9)⟩,
           ⟨some 17, none, .mov (.t 0)⟩,
           ⟨some 18, none, .len (.t 17)⟩,
           ⟨some 19, none, .bin .lss (.t 16) (.t 18)⟩])
          (.cond (.t 19)
           .skip
           (.exit 0)))
         (.seq
          (.block 1
           (.seq
            (.reg [⟨some 22, none, .mov (.t 0)⟩,
             ⟨some 23, none, .mov (.t 9)⟩,
             ⟨some 24, none, .iaddr (.slice 3) (.t 22) (.t 23)⟩,
             ⟨some 25, none, .faddr 1 (.t 24)⟩,
             ⟨some 26, none, .load 1 false (.t 25)⟩,
             ⟨some 27, none, .mov (.t 0)⟩,
             ⟨some 28, none, .mov (.t 9)⟩,
             ⟨some 29, none, .call false 35 [(.t 27), (.t 28)]⟩,
             ⟨some 10, none, .mov (.t 26)⟩,
             ⟨some 11, none, .mov (.t 29)⟩])
            (.seq
             (.seq
              (.reg [⟨some 30, none, .mov (.t 10)⟩,
               ⟨some 31, none, .faddr 0 (.t 5)⟩,
               ⟨some 32, none, .load 1 false (.t 31)⟩,
               ⟨some 33, none, .bin .lss (.t 30) (.t 32)⟩])
              (.cond (.t 33)
               (.reg [⟨some 34, none, .faddr 0 (.t 5)⟩,
                ⟨some 35, none, .load 1 false (.t 34)⟩,
                ⟨some 10, none, .mov (.t 35)⟩])
               .skip))
             (.seq
              (.seq
               (.reg [⟨some 36, none, .mov (.t 11)⟩,
                ⟨some 37, none, .faddr 1 (.t 5)⟩,
                ⟨some 38, none, .load 1 false (.t 37)⟩,
                ⟨some 39, none, .bin .gtr (.t 36) (.t 38)⟩])
               (.cond (.t 39)
                (.reg [⟨some 40, none, .faddr 1 (.t 5)⟩,
                 ⟨some 41, none, .load 1 false (.t 40)⟩,
                 ⟨some 11, none, .mov (.t 41)⟩])
                .skip))
              (.seq
               (.reg [⟨some 42, none, .mov (.t 0)⟩,
                ⟨some 43, none, .mov (.t 9)⟩,
                ⟨some 44, none, .iaddr (.slice 3) (.t 42) (.t 43)⟩,
                ⟨some 45, none, .faddr 0 (.t 44)⟩,
                ⟨some 46, none, .load 1 false (.t 45)⟩,
                ⟨some 47, none, .mov (.t 1)⟩,
                ⟨some 48, none, .bin .eql (.t 46) (.t 47)⟩,
                ⟨some 49, none, .mov (.t 48)⟩,
                ⟨some 50, some (49, true), .mov (.t 10)⟩,
                ⟨some 51, some (49, true), .mov (.t 11)⟩,
                ⟨some 52, some (49, true), .bin .lss (.t 50) (.t 51)⟩,
                ⟨some 53, none, .pick (.t 49) (.t 52) (.c (.bool false))⟩])
               (.cond (.t 53)
                (.reg [⟨some 54, none, .load 3 true (.t 8)⟩,
                 ⟨some 55, none, .mov (.t 0)⟩,
                 ⟨some 56, none, .mov (.t 9)⟩,
                 ⟨some 57, none, .iaddr (.slice 3) (.t 55) (.t 56)⟩,
                 ⟨some 58, none, .faddr 2 (.t 57)⟩,
                 ⟨some 59, none, .load 1 false (.t 58)⟩,
                 ⟨some 60, none, .mov (.t 11)⟩,
                 ⟨some 61, none, .mov (.t 10)⟩,
                 ⟨some 62, none, .bin .sub (.t 60) (.t 61)⟩,
                 ⟨some 63, none, .call false 37 [(.t 59), (.t 62)]⟩,
                 ⟨some 64, none, .call false 36 [(.t 54), (.t 63)]⟩,
                 ⟨none, none, .store 3 (.t 8) (.t 64)⟩])
                .skip))))))
          (.reg [⟨some 20, none, .mov (.t 9)⟩,
           ⟨some 21, none, .bin .add (.t 20) (.c (.int .i64 1))⟩,
           ⟨some 9, none, .mov (.t 21)⟩])))
def c21r0 : AC := (.seq
      (.reg [⟨some 65, none, .load 3 true (.t 8)⟩,
       ⟨some 66, none, .call false 38 [(.t 65), (.c (.int .i64 1000000000000000))]⟩,
       ⟨some 67, none, .ext (.t 66) 0⟩,
       ⟨some 68, none, .ext (.t 66) 1⟩,
       ⟨some 6, none, .mov (.t 67)⟩,
       ⟨some 7, none, .mov (.t 68)⟩])
      .ret)
/-- tracebook/tracebookref30.Integral -/
def c21 : AFn := ⟨3, 69, [.t 6, .t 7],
 (.seq
  (.reg [⟨some 5, none, .box (.t 2)⟩,
   ⟨some 6, none, .mov (.c (.int .i64 0))⟩,
   ⟨some 7, none, .mov (.c (.bool false))⟩])
  (.seq
   (.seq
    (.reg [⟨some 12, none, .load 2 true (.t 5)⟩,
     ⟨some 13, none, .call false 34 [(.t 12)]⟩,
     ⟨some 14, none, .un .not (.t 13)⟩])
    (.cond (.t 14)
     (.seq
      (.reg [⟨some 6, none, .mov (.c (.int .i64 0))⟩,
       ⟨some 7, none, .mov (.c (.bool false))⟩])
      .ret)
     .skip))
   (.seq
    (.reg [⟨some 15, none, .build [(.bool false), (.int .u64 0), (.int .u64 0)] []⟩,
     ⟨some 8, none, .alloc [(.bool false), (.int .u64 0), (.int .u64 0)]⟩,
     ⟨none, none, .store 3 (.t 8) (.t 15)⟩])
    (.seq
     (.seq
      (.reg [⟨some 9, none, .mov (.c (.int .i64 0))⟩])
      (.block 0
       (.loop [0, 1, 5, 8, 9]
        c21b0)))
     c21r0)))), none⟩
def k21 : List (List Nat) := [[0, 1, 5, 8, 9]]
def o21 : List Nat := [3000000]
def c22b0 : AC := (.seq
       (.seq
        (.reg [⟨some 6, none, .mov (.t 3)⟩,
         ⟨some 7, none, .mov (.t 0)⟩,
         ⟨some 8, none, .len (.t 7)⟩,
         ⟨some 9, none, .bin .lss (.t 6) (.t 8)⟩])
        (.cond (.t 9)
         .skip
         (.exit 0)))
       (.seq
        (.block 1
         (.seq
          (.reg [⟨some 12, none, .mov (.t 0)⟩,
           ⟨some 13, none, .mov (.t 3)⟩,
           ⟨some 14, none, .iaddr (.slice 10) (.t 12) (.t 13)⟩,
           ⟨some 15, none, .faddr 0 (.t 14)⟩,
           ⟨some 16, none, .load 2 true (.t 15)⟩,
           ⟨some 4, none, .alloc [(.int .i64 0), (.int .i64 0)]⟩,
           ⟨none, none, .store 2 (.t 4) (.t 16)⟩])
          (.seq
           (.seq
            (.reg [⟨some 17, none, .mov (.t 0)⟩,
             ⟨some 18, none, .mov (.t 3)⟩,
             ⟨some 19, none, .iaddr (.slice 10) (.t 17) (.t 18)⟩,
             ⟨some 20, none, .faddr 2 (.t 19)⟩,
             ⟨some 21, none, .load 6 true (.t 20)⟩,
             ⟨some 22, none, .call false 39 [(.t 21)]⟩,
             ⟨some 23, none, .bin .neq (.t 22) (.c (.int .i64 0))⟩,
             ⟨some 24, none, .mov (.t 23)⟩,
             ⟨some 25, some (24, false), .faddr 0 (.t 4)⟩,
             ⟨some 26, some (24, false), .load 1 false (.t 25)⟩,
             ⟨some 27, some (24, false), .bin .lss (.t 26) (.c (.int .i64 0))⟩,
             ⟨some 28, none, .pick (.t 24) (.c (.bool true)) (.t 27)⟩,
             ⟨some 29, none, .mov (.t 28)⟩,
             ⟨some 30, some (29, false), .faddr 0 (.t 4)⟩,
             ⟨some 31, some (29, false), .load 1 false (.t 30)⟩,
             ⟨some 32, some (29, false), .bin .gtr (.t 31) (.c (.int .i64 1000000000000000))⟩,
             ⟨some 33, none, .pick (.t 29) (.c (.bool true)) (.t 32)⟩,
             ⟨some 34, none, .mov (.t 33)⟩,
             ⟨some 35, some (34, false), .faddr 1 (.t 4)⟩,
             ⟨some 36, some (34, false), .load 1 false (.t 35)⟩,
             ⟨some 37, some (34, false), .bin .lss (.t 36) (.c (.int .i64 0))⟩,
             ⟨some 38, none, .pick (.t 34) (.c (.bool true)) (.t 37)⟩,
             ⟨some 39, none, .mov (.t 38)⟩,
             ⟨some 40, some (39, false), .faddr 1 (.t 4)⟩,
             ⟨some 41, some (39, false), .load 1 false (.t 40)⟩,
             ⟨some 42, some (39, false), .bin .gtr (.t 41) (.c (.int .i64 1000000000000000))⟩,
             ⟨some 43, none, .pick (.t 39) (.c (.bool true)) (.t 42)⟩])
            (.cond (.t 43)
             (.seq
              (.reg [⟨some 2, none, .mov (.c (.bool false))⟩])
              .ret)
             .skip))
           (.seq
            (.seq
             (.reg [⟨some 44, none, .mov (.t 3)⟩,
              ⟨some 45, none, .bin .gtr (.t 44) (.c (.int .i64 0))⟩,
              ⟨some 46, none, .mov (.t 45)⟩,
              ⟨some 47, some (46, true), .mov (.t 0)⟩,
              ⟨some 48, some (46, true), .mov (.t 3)⟩,
              ⟨some 49, some (46, true), .iaddr (.slice 10) (.t 47) (.t 48)⟩,
              ⟨some 50, some (46, true), .load 10 true (.t 49)⟩,
              ⟨some 51, some (46, true), .call false 40 [(.t 50)]⟩,
              ⟨some 52, some (46, true), .mov (.t 0)⟩,
              ⟨some 53, some (46, true), .mov (.t 3)⟩,
              ⟨some 54, some (46, true), .bin .sub (.t 53) (.c (.int .i64 1))⟩,
              ⟨some 55, some (46, true), .iaddr (.slice 10) (.t 52) (.t 54)⟩,
              ⟨some 56, some (46, true), .load 10 true (.t 55)⟩,
              ⟨some 57, some (46, true), .call false 40 [(.t 56)]⟩,
              ⟨some 58, some (46, true), .bin .lss (.t 51) (.t 57)⟩,
              ⟨some 59, none, .pick (.t 46) (.t 58) (.c (.bool false))⟩])
             (.cond (.t 59)
              (.seq
               (.reg [⟨some 2, none, .mov (.c (.bool false))⟩])
               .ret)
              .skip))
            (.seq
             (.reg [⟨some 60, none, .mov (.t 0)⟩,
              ⟨some 61, none, .mov (.t 3)⟩,
              ⟨some 62, none, .call false 41 [(.t 60), (.t 61)]⟩,
              ⟨some 5, none, .mov (.t 62)⟩])
             (.seq
              (.reg [⟨some 63, none, .mov (.t 5)⟩,
               ⟨some 64, none, .bin .geq (.t 63) (.c (.int .i64 0))⟩,
               ⟨some 65, none, .mov (.t 64)⟩,
               ⟨some 66, some (65, true), .mov (.t 0)⟩,
               ⟨some 67, some (65, true), .mov (.t 5)⟩,
               ⟨some 68, some (65, true), .iaddr (.slice 10) (.t 66) (.t 67)⟩,
               ⟨some 69, some (65, true), .faddr 0 (.t 68)⟩,
               ⟨some 70, some (65, true), .faddr 1 (.t 69)⟩,
               ⟨some 71, some (65, true), .load 1 false (.t 70)⟩,
               ⟨some 72, some (65, true), .faddr 1 (.t 4)⟩,
               ⟨some 73, some (65, true), .load 1 false (.t 72)⟩,
               ⟨some 74, some (65, true), .bin .geq (.t 71) (.t 73)⟩,
               ⟨some 75, none, .pick (.t 65) (.t 74) (.c (.bool false))⟩])
              (.cond (.t 75)
               (.seq
                (.reg [⟨some 2, none, .mov (.c (.bool false))⟩])
                .ret)
               .skip)))))))
        (.reg [⟨some 10, none, .mov (.t 3)⟩,
         ⟨some 11, none, .bin .add (.t 10) (.c (.int .i64 1))⟩,
         ⟨some 3, none, .mov (.t 11)⟩])))
/-- tracebook/tracebookref26.Ordered -/
def c22 : AFn := ⟨1, 76, [.t 2],
 (.seq
  (.reg [⟨some 2, none, .mov (.c (.bool false))⟩])
  (.seq
   (.seq
    (.reg [⟨some 3, none, .mov (.c (.int .i64 0))⟩])
    (.block 0
     (.loop [0, 3]
      c22b0)))
   (.seq
    (.reg [⟨some 2, none, .mov (.c (.bool true))⟩])
    .ret))), none⟩
def k22 : List (List Nat) := [[0, 3]]
def o22 : List Nat := [3000000]
/-- tracebook/tracebooklaw30.at -/
def c23 : AFn := ⟨3, 16, [.c 6 10 true],
 (.seq
  (.reg [⟨some 6, none, .alloc [(.int .i64 0), (.int .i64 0), (.int .i64 0), (.int .i64 0), (.str []), (.int .i64 0), (.int .i64 0), .nilS, (.int .i64 0), (.int .i64 0)]⟩])
  (.seq
   (.reg [⟨some 7, none, .mov (.t 0)⟩,
    ⟨some 8, none, .build [(.int .i64 0), (.int .i64 0)] [(0, 1, (.c (.int .i64 1))), (1, 1, (.t 7))]⟩,
    ⟨some 9, none, .mov (.t 1)⟩,
    ⟨some 10, none, .mov (.t 2)⟩,
    ⟨some 11, none, .build [(.int .i64 0), (.int .i64 0), (.str []), (.int .i64 0), (.int .i64 0), .nilS] [(0, 1, (.t 9)), (1, 1, (.c (.int .i64 4))), (2, 1, (.c (.str [99]))), (3, 1, (.t 10))]⟩,
    ⟨some 12, none, .mov (.t 1)⟩,
    ⟨some 13, none, .mov (.t 1)⟩,
    ⟨some 14, none, .build [(.int .i64 0), (.int .i64 0)] [(0, 1, (.t 12)), (1, 1, (.t 13))]⟩,
    ⟨some 15, none, .build [(.int .i64 0), (.int .i64 0), (.int .i64 0), (.int .i64 0), (.str []), (.int .i64 0), (.int .i64 0), .nilS, (.int .i64 0), (.int .i64 0)] [(0, 2, (.t 8)), (2, 6, (.t 11)), (8, 2, (.t 14))]⟩,
    ⟨none, none, .store 10 (.t 6) (.t 15)⟩])
   .ret)), none⟩
def k23 : List (List Nat) := []
def o23 : List Nat := [3000000]
/-- tracebook/counter.timeOf -/
def c24 : AFn := ⟨1, 8, [.t 2],
 (.seq
  (.reg [⟨some 1, none, .box (.t 0)⟩,
   ⟨some 2, none, .mov (.c (.int .i64 0))⟩])
  (.seq
   (.reg [⟨some 3, none, .faddr 8 (.t 1)⟩,
    ⟨some 4, none, .faddr 0 (.t 3)⟩,
    ⟨some 5, none, .load 1 false (.t 4)⟩,
    ⟨some 6, none, .max [(.t 5), (.c (.int .i64 0))]⟩,
    ⟨some 7, none, .min [(.t 6), (.c (.int .i64 1000000000000))]⟩,
    ⟨some 2, none, .mov (.t 7)⟩])
   .ret)), none⟩
def k24 : List (List Nat) := []
def o24 : List Nat := [3000000]
/-- slices.SortStableFunc[[]tracebook/api.Step,tracebook/api.Step] -/
def c25 : AFn := ⟨2, 9, [],
 (.reg [⟨some 4, none, .mov (.t 0)⟩,
  ⟨some 5, none, .mov (.t 0)⟩,
  ⟨some 6, none, .len (.t 5)⟩,
  ⟨some 7, none, .mov (.t 1)⟩,
  ⟨some 8, none, .call false 42 [(.t 4), (.t 6), (.t 7)]⟩]), none⟩
def k25 : List (List Nat) := []
def o25 : List Nat := [3000000]
/-- tracebook/counter.compare -/
def c26 : AFn := ⟨2, 17, [.t 4],
 (.seq
  (.reg [⟨some 2, none, .box (.t 0)⟩,
   ⟨some 3, none, .box (.t 1)⟩,
   ⟨some 4, none, .mov (.c (.int .i64 0))⟩])
  (.seq
   (.reg [⟨some 5, none, .faddr 0 (.t 2)⟩,
    ⟨some 6, none, .load 1 false (.t 5)⟩,
    ⟨some 7, none, .faddr 0 (.t 3)⟩,
    ⟨some 8, none, .load 1 false (.t 7)⟩,
    ⟨some 9, none, .call false 44 [(.t 6), (.t 8)]⟩,
    ⟨some 10, none, .faddr 1 (.t 2)⟩,
    ⟨some 11, none, .load 1 false (.t 10)⟩,
    ⟨some 12, none, .faddr 1 (.t 3)⟩,
    ⟨some 13, none, .load 1 false (.t 12)⟩,
    ⟨some 14, none, .call false 45 [(.t 11), (.t 13)]⟩,
    ⟨some 15, none, .bslice false 1 [(.int .i64 0)] 2 [(0, (.t 9)), (1, (.t 14))]⟩,
    ⟨some 16, none, .call false 43 [(.t 15)]⟩,
    ⟨some 4, none, .mov (.t 16)⟩])
   .ret)), none⟩
def k26 : List (List Nat) := []
def o26 : List Nat := [3000000]
def c27b0 : AC := (.seq
        (.seq
         (.reg [⟨some 8, none, .mov (.t 6)⟩,
          ⟨some 9, none, .mov (.t 0)⟩,
          ⟨some 10, none, .len (.t 9)⟩,
          ⟨some 11, none, .bin .lss (.t 8) (.t 10)⟩])
         (.cond (.t 11)
          .skip
          (.exit 0)))
        (.seq
         (.block 1
          (.seq
           (.reg [⟨some 14, none, .mov (.t 0)⟩,
            ⟨some 15, none, .mov (.t 6)⟩,
            ⟨some 16, none, .iaddr (.slice 10) (.t 14) (.t 15)⟩,
            ⟨some 17, none, .faddr 2 (.t 16)⟩,
            ⟨some 18, none, .faddr 2 (.t 17)⟩,
            ⟨some 19, none, .load 1 false (.t 18)⟩,
            ⟨some 7, none, .mov (.t 19)⟩])
           (.seq
            (.reg [⟨some 20, none, .mov (.t 0)⟩,
             ⟨some 21, none, .mov (.t 6)⟩,
             ⟨some 22, none, .iaddr (.slice 10) (.t 20) (.t 21)⟩,
             ⟨some 23, none, .faddr 2 (.t 22)⟩,
             ⟨some 24, none, .faddr 1 (.t 23)⟩,
             ⟨some 25, none, .load 1 false (.t 24)⟩,
             ⟨some 26, none, .bin .eql (.t 25) (.c (.int .i64 4))⟩,
             ⟨some 27, none, .mov (.t 26)⟩,
             ⟨some 28, some (27, true), .mov (.t 7)⟩,
             ⟨some 29, some (27, true), .mov (.t 1)⟩,
             ⟨some 30, some (27, true), .bin .gtr (.t 28) (.t 29)⟩,
             ⟨some 31, none, .pick (.t 27) (.t 30) (.c (.bool false))⟩,
             ⟨some 32, none, .mov (.t 31)⟩,
             ⟨some 33, some (32, true), .mov (.t 5)⟩,
             ⟨some 34, some (32, true), .bin .eql (.t 33) (.c (.str []))⟩,
             ⟨some 35, some (32, true), .mov (.t 34)⟩,
             ⟨some 36, some (35, false), .mov (.t 7)⟩,
             ⟨some 37, some (35, false), .mov (.t 5)⟩,
             ⟨some 38, some (35, false), .bin .lss (.t 36) (.t 37)⟩,
             ⟨some 39, some (32, true), .pick (.t 35) (.c (.bool true)) (.t 38)⟩,
             ⟨some 40, none, .pick (.t 32) (.t 39) (.c (.bool false))⟩])
            (.cond (.t 40)
             (.reg [⟨some 41, none, .mov (.t 7)⟩,
              ⟨some 5, none, .mov (.t 41)⟩])
             .skip))))
         (.reg [⟨some 12, none, .mov (.t 6)⟩,
          ⟨some 13, none, .bin .add (.t 12) (.c (.int .i64 1))⟩,
          ⟨some 6, none, .mov (.t 13)⟩])))
/-- tracebook/tracebookref30.next -/
def c27 : AFn := ⟨2, 43, [.t 4],
 (.seq
  (.reg [⟨some 4, none, .mov (.c (.str []))⟩])
  (.seq
   (.reg [⟨some 5, none, .mov (.c (.str []))⟩])
   (.seq
    (.seq
     (.reg [⟨some 6, none, .mov (.c (.int .i64 0))⟩])
     (.block 0
      (.loop [0, 1, 5, 6]
       c27b0)))
    (.seq
     (.reg [⟨some 42, none, .mov (.t 5)⟩,
      ⟨some 4, none, .mov (.t 42)⟩])
     .ret)))), none⟩
def k27 : List (List Nat) := [[0, 1, 5, 6]]
def o27 : List Nat := [3000000]
def c28b0 : AC := (.seq
        (.seq
         (.reg [⟨some 7, none, .mov (.t 6)⟩,
          ⟨some 8, none, .mov (.t 0)⟩,
          ⟨some 9, none, .len (.t 8)⟩,
          ⟨some 10, none, .bin .lss (.t 7) (.t 9)⟩])
         (.cond (.t 10)
          .skip
          (.exit 0)))
        (.seq
         (.block 1
          (.seq
           (.seq
            (.reg [⟨some 13, none, .mov (.t 0)⟩,
             ⟨some 14, none, .mov (.t 6)⟩,
             ⟨some 15, none, .call false 46 [(.t 13), (.t 14)]⟩,
             ⟨some 16, none, .un .not (.t 15)⟩,
             ⟨some 17, none, .mov (.t 16)⟩,
             ⟨some 18, some (17, false), .mov (.t 0)⟩,
             ⟨some 19, some (17, false), .mov (.t 6)⟩,
             ⟨some 20, some (17, false), .iaddr (.slice 10) (.t 18) (.t 19)⟩,
             ⟨some 21, some (17, false), .faddr 2 (.t 20)⟩,
             ⟨some 22, some (17, false), .faddr 2 (.t 21)⟩,
             ⟨some 23, some (17, false), .load 1 false (.t 22)⟩,
             ⟨some 24, some (17, false), .mov (.t 1)⟩,
             ⟨some 25, some (17, false), .bin .neq (.t 23) (.t 24)⟩,
             ⟨some 26, none, .pick (.t 17) (.c (.bool true)) (.t 25)⟩])
            (.cond (.t 26)
             (.exit 1)
             .skip))
           (.seq
            (.reg [⟨some 27, none, .mov (.t 5)⟩,
             ⟨some 28, none, .len (.t 27)⟩,
             ⟨some 29, none, .bin .eql (.t 28) (.c (.int .i64 0))⟩,
             ⟨some 30, none, .mov (.t 29)⟩,
             ⟨some 31, some (30, false), .mov (.t 5)⟩,
             ⟨some 32, some (30, false), .mov (.t 5)⟩,
             ⟨some 33, some (30, false), .len (.t 32)⟩,
             ⟨some 34, some (30, false), .bin .sub (.t 33) (.c (.int .i64 1))⟩,
             ⟨some 35, some (30, false), .iaddr (.slice 3) (.t 31) (.t 34)⟩,
             ⟨some 36, some (30, false), .faddr 2 (.t 35)⟩,
             ⟨some 37, some (30, false), .load 1 false (.t 36)⟩,
             ⟨some 38, some (30, false), .mov (.t 0)⟩,
             ⟨some 39, some (30, false), .mov (.t 6)⟩,
             ⟨some 40, some (30, false), .iaddr (.slice 10) (.t 38) (.t 39)⟩,
             ⟨some 41, some (30, false), .faddr 2 (.t 40)⟩,
             ⟨some 42, some (30, false), .faddr 3 (.t 41)⟩,
             ⟨some 43, some (30, false), .load 1 false (.t 42)⟩,
             ⟨some 44, some (30, false), .bin .neq (.t 37) (.t 43)⟩,
             ⟨some 45, none, .pick (.t 30) (.c (.bool true)) (.t 44)⟩])
            (.cond (.t 45)
             (.reg [⟨some 46, none, .mov (.t 5)⟩,
              ⟨some 47, none, .mov (.t 1)⟩,
              ⟨some 48, none, .mov (.t 0)⟩,
              ⟨some 49, none, .mov (.t 6)⟩,
              ⟨some 50, none, .iaddr (.slice 10) (.t 48) (.t 49)⟩,
              ⟨some 51, none, .load 10 true (.t 50)⟩,
              ⟨some 52, none, .call false 40 [(.t 51)]⟩,
              ⟨some 53, none, .mov (.t 0)⟩,
              ⟨some 54, none, .mov (.t 6)⟩,
              ⟨some 55, none, .iaddr (.slice 10) (.t 53) (.t 54)⟩,
              ⟨some 56, none, .faddr 2 (.t 55)⟩,
              ⟨some 57, none, .faddr 3 (.t 56)⟩,
              ⟨some 58, none, .load 1 false (.t 57)⟩,
              ⟨some 59, none, .build [(.str []), (.int .i64 0), (.int .i64 0)] [(0, 1, (.t 47)), (1, 1, (.t 52)), (2, 1, (.t 58))]⟩,
              ⟨some 60, none, .bslice false 3 [(.str []), (.int .i64 0), (.int .i64 0)] 1 [(0, (.t 59))]⟩,
              ⟨some 61, none, .append 3 32 (.t 46) (.t 60)⟩,
              ⟨some 5, none, .mov (.t 61)⟩])
             .skip))))
         (.reg [⟨some 11, none, .mov (.t 6)⟩,
          ⟨some 12, none, .bin .add (.t 11) (.c (.int .i64 1))⟩,
          ⟨some 6, none, .mov (.t 12)⟩])))
/-- tracebook/tracebookref30.steps -/
def c28 : AFn := ⟨2, 63, [.t 4],
 (.seq
  (.reg [⟨some 4, none, .nilv 3⟩])
  (.seq
   (.reg [⟨some 5, none, .nilv 3⟩])
   (.seq
    (.seq
     (.reg [⟨some 6, none, .mov (.c (.int .i64 0))⟩])
     (.block 0
      (.loop [0, 1, 5, 6]
       c28b0)))
    (.seq
     (.reg [⟨some 62, none, .mov (.t 5)⟩,
      ⟨some 4, none, .mov (.t 62)⟩])
     .ret)))), none⟩
def k28 : List (List Nat) := [[0, 1, 5, 6]]
def o28 : List Nat := [3000000]
def c29b0 : AC := (.seq
        (.reg [⟨some 15, none, .bin .lss (.t 14) (.t 13)⟩])
        (.seq
         (.cond (.t 15)
          .skip
          (.exit 0))
         (.seq
          (.block 1
           (.seq
            (.reg [⟨some 16, none, .mov (.t 14)⟩,
             ⟨some 3, none, .mov (.t 16)⟩])
            (.seq
             (.reg [⟨some 17, none, .mov (.t 0)⟩,
              ⟨some 18, none, .mov (.t 3)⟩,
              ⟨some 19, none, .idxS (.t 17) (.t 18)⟩,
              ⟨some 20, none, .call false 47 [(.t 19)]⟩,
              ⟨some 21, none, .un .not (.t 20)⟩])
             (.cond (.t 21)
              (.seq
               (.reg [⟨some 2, none, .mov (.c (.int .i64 3))⟩])
               .ret)
              .skip))))
          (.reg [⟨some 22, none, .bin .add (.t 14) (.c (.int .i64 1))⟩,
           ⟨some 14, none, .mov (.t 22)⟩]))))
/-- tracebook/intern.Name -/
def c29 : AFn := ⟨1, 23, [.t 2],
 (.seq
  (.reg [⟨some 2, none, .mov (.c (.int .i64 0))⟩])
  (.seq
   (.seq
    (.reg [⟨some 4, none, .mov (.t 0)⟩,
     ⟨some 5, none, .lenS (.t 4)⟩,
     ⟨some 6, none, .bin .lss (.t 5) (.c (.int .i64 1))⟩,
     ⟨some 7, none, .mov (.t 6)⟩,
     ⟨some 8, some (7, false), .mov (.t 0)⟩,
     ⟨some 9, some (7, false), .lenS (.t 8)⟩,
     ⟨some 10, some (7, false), .bin .gtr (.t 9) (.c (.int .i64 40))⟩,
     ⟨some 11, none, .pick (.t 7) (.c (.bool true)) (.t 10)⟩])
    (.cond (.t 11)
     (.seq
      (.reg [⟨some 2, none, .mov (.c (.int .i64 3))⟩])
      .ret)
     .skip))
   (.seq
    (.seq
     (.reg [⟨some 12, none, .mov (.t 0)⟩,
      ⟨some 13, none, .lenS (.t 12)⟩,
      ⟨some 14, none, .mov (.c (.int .i64 0))⟩])
     (.block 0
      (.loop [0, 13, 14]
       c29b0)))
    (.seq
     (.reg [⟨some 2, none, .mov (.c (.int .i64 0))⟩])
     .ret)))), none⟩
def k29 : List (List Nat) := [[0, 13, 14]]
def o29 : List Nat := [3000000]
/-- tracebook/num.In -/
def c30 : AFn := ⟨1, 9, [.t 2],
 (.seq
  (.reg [⟨some 2, none, .mov (.c (.bool false))⟩])
  (.seq
   (.reg [⟨some 3, none, .mov (.t 0)⟩,
    ⟨some 4, none, .bin .leq (.c (.int .i64 (-1000000000000000))) (.t 3)⟩,
    ⟨some 5, none, .mov (.t 4)⟩,
    ⟨some 6, some (5, true), .mov (.t 0)⟩,
    ⟨some 7, some (5, true), .bin .leq (.t 6) (.c (.int .i64 1000000000000000))⟩,
    ⟨some 8, none, .pick (.t 5) (.t 7) (.c (.bool false))⟩,
    ⟨some 2, none, .mov (.t 8)⟩])
   .ret)), none⟩
def k30 : List (List Nat) := []
def o30 : List Nat := [3000000]
def c31b0 : AC := (.seq
        (.seq
         (.reg [⟨some 12, none, .mov (.t 3)⟩,
          ⟨some 13, none, .mov (.t 0)⟩,
          ⟨some 14, none, .lenS (.t 13)⟩,
          ⟨some 15, none, .bin .lss (.t 12) (.t 14)⟩])
         (.cond (.t 15)
          .skip
          (.exit 0)))
        (.seq
         (.block 1
          (.seq
           (.reg [⟨some 18, none, .mov (.t 0)⟩,
            ⟨some 19, none, .mov (.t 3)⟩,
            ⟨some 20, none, .idxS (.t 18) (.t 19)⟩,
            ⟨some 21, none, .call false 48 [(.t 20)]⟩,
            ⟨some 22, none, .un .not (.t 21)⟩])
           (.cond (.t 22)
            (.seq
             (.reg [⟨some 2, none, .mov (.c (.int .i64 3))⟩])
             .ret)
            .skip)))
         (.reg [⟨some 16, none, .mov (.t 3)⟩,
          ⟨some 17, none, .bin .add (.t 16) (.c (.int .i64 1))⟩,
          ⟨some 3, none, .mov (.t 17)⟩])))
/-- tracebook/tracebookref06.Name -/
def c31 : AFn := ⟨1, 23, [.t 2],
 (.seq
  (.reg [⟨some 2, none, .mov (.c (.int .i64 0))⟩])
  (.seq
   (.seq
    (.reg [⟨some 4, none, .mov (.t 0)⟩,
     ⟨some 5, none, .lenS (.t 4)⟩,
     ⟨some 6, none, .bin .lss (.t 5) (.c (.int .i64 1))⟩,
     ⟨some 7, none, .mov (.t 6)⟩,
     ⟨some 8, some (7, false), .mov (.t 0)⟩,
     ⟨some 9, some (7, false), .lenS (.t 8)⟩,
     ⟨some 10, some (7, false), .bin .gtr (.t 9) (.c (.int .i64 40))⟩,
     ⟨some 11, none, .pick (.t 7) (.c (.bool true)) (.t 10)⟩])
    (.cond (.t 11)
     (.seq
      (.reg [⟨some 2, none, .mov (.c (.int .i64 3))⟩])
      .ret)
     .skip))
   (.seq
    (.seq
     (.reg [⟨some 3, none, .mov (.c (.int .i64 0))⟩])
     (.block 0
      (.loop [0, 3]
       c31b0)))
    (.seq
     (.reg [⟨some 2, none, .mov (.c (.int .i64 0))⟩])
     .ret)))), none⟩
def k31 : List (List Nat) := [[0, 3]]
def o31 : List Nat := [3000000]
/-- (tracebook/counter.wide).plus -/
def c32 : AFn := ⟨3, 43, [.c 6 2 true],
 (.seq
  (.reg [⟨some 3, none, .box (.t 0)⟩,
   ⟨some 6, none, .alloc [(.int .u64 0), (.int .u64 0)]⟩])
  (.seq
   (.reg [⟨some 12, none, .mov (.t 1)⟩,
    ⟨some 13, none, .conv (.int .u64) (.t 12)⟩,
    ⟨some 14, none, .mov (.t 2)⟩,
    ⟨some 15, none, .conv (.int .u64) (.t 14)⟩,
    ⟨some 16, none, .call false 49 [(.t 13), (.t 15)]⟩,
    ⟨some 11, none, .mov (.t 16)⟩,
    ⟨some 17, none, .ext (.t 11) 0⟩,
    ⟨some 18, none, .ext (.t 11) 1⟩,
    ⟨some 7, none, .mov (.t 17)⟩,
    ⟨some 8, none, .mov (.t 18)⟩])
   (.seq
    (.seq
     (.reg [⟨some 19, none, .mov (.t 1)⟩,
      ⟨some 20, none, .bin .lss (.t 19) (.c (.int .i64 0))⟩])
     (.cond (.t 20)
      (.reg [⟨some 21, none, .mov (.t 7)⟩,
       ⟨some 22, none, .mov (.t 2)⟩,
       ⟨some 23, none, .conv (.int .u64) (.t 22)⟩,
       ⟨some 24, none, .bin .sub (.t 21) (.t 23)⟩,
       ⟨some 7, none, .mov (.t 24)⟩])
      .skip))
    (.seq
     (.reg [⟨some 26, none, .faddr 1 (.t 3)⟩,
      ⟨some 27, none, .load 1 false (.t 26)⟩,
      ⟨some 28, none, .mov (.t 8)⟩,
      ⟨some 29, none, .call false 50 [(.t 27), (.t 28), (.c (.int .u64 0))]⟩,
      ⟨some 25, none, .mov (.t 29)⟩,
      ⟨some 30, none, .ext (.t 25) 0⟩,
      ⟨some 31, none, .ext (.t 25) 1⟩,
      ⟨some 9, none, .mov (.t 30)⟩,
      ⟨some 10, none, .mov (.t 31)⟩])
     (.seq
      (.reg [⟨some 33, none, .faddr 0 (.t 3)⟩,
       ⟨some 34, none, .load 1 false (.t 33)⟩,
       ⟨some 35, none, .mov (.t 7)⟩,
       ⟨some 36, none, .mov (.t 10)⟩,
       ⟨some 37, none, .call false 50 [(.t 34), (.t 35), (.t 36)]⟩,
       ⟨some 32, none, .mov (.t 37)⟩,
       ⟨some 38, none, .ext (.t 32) 0⟩,
       ⟨some 39, none, .ext (.t 32) 1⟩,
       ⟨some 7, none, .mov (.t 38)⟩])
      (.seq
       (.reg [⟨some 40, none, .mov (.t 7)⟩,
        ⟨some 41, none, .mov (.t 9)⟩,
        ⟨some 42, none, .build [(.int .u64 0), (.int .u64 0)] [(0, 1, (.t 40)), (1, 1, (.t 41))]⟩,
        ⟨none, none, .store 2 (.t 6) (.t 42)⟩])
       .ret)))))), none⟩
def k32 : List (List Nat) := []
def o32 : List Nat := [3000000]
/-- (tracebook/counter.wide).int -/
def c33 : AFn := ⟨1, 20, [.t 2, .t 3],
 (.seq
  (.reg [⟨some 1, none, .box (.t 0)⟩,
   ⟨some 2, none, .mov (.c (.int .i64 0))⟩,
   ⟨some 3, none, .mov (.c (.bool false))⟩])
  (.seq
   (.reg [⟨some 5, none, .faddr 1 (.t 1)⟩,
    ⟨some 6, none, .load 1 false (.t 5)⟩,
    ⟨some 7, none, .conv (.int .i64) (.t 6)⟩,
    ⟨some 4, none, .mov (.t 7)⟩])
   (.seq
    (.seq
     (.reg [⟨some 8, none, .faddr 0 (.t 1)⟩,
      ⟨some 9, none, .load 1 false (.t 8)⟩,
      ⟨some 10, none, .mov (.t 4)⟩,
      ⟨some 11, none, .bin .shr (.t 10) (.c (.int .u64 63))⟩,
      ⟨some 12, none, .conv (.int .u64) (.t 11)⟩,
      ⟨some 13, none, .bin .neq (.t 9) (.t 12)⟩,
      ⟨some 14, none, .mov (.t 13)⟩,
      ⟨some 15, some (14, false), .mov (.t 4)⟩,
      ⟨some 16, some (14, false), .call false 30 [(.t 15)]⟩,
      ⟨some 17, some (14, false), .un .not (.t 16)⟩,
      ⟨some 18, none, .pick (.t 14) (.c (.bool true)) (.t 17)⟩])
     (.cond (.t 18)
      (.seq
       (.reg [⟨some 2, none, .mov (.c (.int .i64 0))⟩,
        ⟨some 3, none, .mov (.c (.bool false))⟩])
       .ret)
      .skip))
    (.seq
     (.reg [⟨some 19, none, .mov (.t 4)⟩,
      ⟨some 2, none, .mov (.t 19)⟩,
      ⟨some 3, none, .mov (.c (.bool true))⟩])
     .ret)))), none⟩
def k33 : List (List Nat) := []
def o33 : List Nat := [3000000]
/-- tracebook/tracebookref04.Valid -/
def c34 : AFn := ⟨1, 18, [.t 2],
 (.seq
  (.reg [⟨some 1, none, .box (.t 0)⟩,
   ⟨some 2, none, .mov (.c (.bool false))⟩])
  (.seq
   (.reg [⟨some 3, none, .faddr 0 (.t 1)⟩,
    ⟨some 4, none, .load 1 false (.t 3)⟩,
    ⟨some 5, none, .bin .geq (.t 4) (.c (.int .i64 0))⟩,
    ⟨some 6, none, .mov (.t 5)⟩,
    ⟨some 7, some (6, true), .faddr 0 (.t 1)⟩,
    ⟨some 8, some (6, true), .load 1 false (.t 7)⟩,
    ⟨some 9, some (6, true), .faddr 1 (.t 1)⟩,
    ⟨some 10, some (6, true), .load 1 false (.t 9)⟩,
    ⟨some 11, some (6, true), .bin .lss (.t 8) (.t 10)⟩,
    ⟨some 12, none, .pick (.t 6) (.t 11) (.c (.bool false))⟩,
    ⟨some 13, none, .mov (.t 12)⟩,
    ⟨some 14, some (13, true), .faddr 1 (.t 1)⟩,
    ⟨some 15, some (13, true), .load 1 false (.t 14)⟩,
    ⟨some 16, some (13, true), .bin .leq (.t 15) (.c (.int .i64 1000000000000))⟩,
    ⟨some 17, none, .pick (.t 13) (.t 16) (.c (.bool false))⟩,
    ⟨some 2, none, .mov (.t 17)⟩])
   .ret)), none⟩
def k34 : List (List Nat) := []
def o34 : List Nat := [3000000]
/-- tracebook/tracebookref30.until -/
def c35 : AFn := ⟨2, 30, [.t 4],
 (.seq
  (.reg [⟨some 4, none, .mov (.c (.int .i64 0))⟩])
  (.seq
   (.seq
    (.reg [⟨some 5, none, .mov (.t 1)⟩,
     ⟨some 6, none, .bin .add (.t 5) (.c (.int .i64 1))⟩,
     ⟨some 7, none, .mov (.t 0)⟩,
     ⟨some 8, none, .len (.t 7)⟩,
     ⟨some 9, none, .bin .lss (.t 6) (.t 8)⟩,
     ⟨some 10, none, .mov (.t 9)⟩,
     ⟨some 11, some (10, true), .mov (.t 0)⟩,
     ⟨some 12, some (10, true), .mov (.t 1)⟩,
     ⟨some 13, some (10, true), .bin .add (.t 12) (.c (.int .i64 1))⟩,
     ⟨some 14, some (10, true), .iaddr (.slice 3) (.t 11) (.t 13)⟩,
     ⟨some 15, some (10, true), .faddr 0 (.t 14)⟩,
     ⟨some 16, some (10, true), .load 1 false (.t 15)⟩,
     ⟨some 17, some (10, true), .mov (.t 0)⟩,
     ⟨some 18, some (10, true), .mov (.t 1)⟩,
     ⟨some 19, some (10, true), .iaddr (.slice 3) (.t 17) (.t 18)⟩,
     ⟨some 20, some (10, true), .faddr 0 (.t 19)⟩,
     ⟨some 21, some (10, true), .load 1 false (.t 20)⟩,
     ⟨some 22, some (10, true), .bin .eql (.t 16) (.t 21)⟩,
     ⟨some 23, none, .pick (.t 10) (.t 22) (.c (.bool false))⟩])
    (.cond (.t 23)
     (.seq
      (.reg [⟨some 24, none, .mov (.t 0)⟩,
       ⟨some 25, none, .mov (.t 1)⟩,
       ⟨some 26, none, .bin .add (.t 25) (.c (.int .i64 1))⟩,
       ⟨some 27, none, .iaddr (.slice 3) (.t 24) (.t 26)⟩,
       ⟨some 28, none, .faddr 1 (.t 27)⟩,
       ⟨some 29, none, .load 1 false (.t 28)⟩,
       ⟨some 4, none, .mov (.t 29)⟩])
      .ret)
     .skip))
   (.seq
    (.reg [⟨some 4, none, .mov (.c (.int .i64 1000000000000))⟩])
    .ret))), none⟩
def k35 : List (List Nat) := []
def o35 : List Nat := [3000000]
/-- tracebook/tracebookref02.Both -/
def c36 : AFn := ⟨2, 8, [.c 4 3 true],
 (.seq
  (.reg [⟨some 2, none, .box (.t 0)⟩,
   ⟨some 3, none, .box (.t 1)⟩,
   ⟨some 4, none, .alloc [(.bool false), (.int .u64 0), (.int .u64 0)]⟩])
  (.seq
   (.reg [⟨some 5, none, .load 3 true (.t 2)⟩,
    ⟨some 6, none, .load 3 true (.t 3)⟩,
    ⟨some 7, none, .call false 51 [(.t 5), (.t 6)]⟩,
    ⟨none, none, .store 3 (.t 4) (.t 7)⟩])
   .ret)), none⟩
def k36 : List (List Nat) := []
def o36 : List Nat := [3000000]
/-- tracebook/tracebookref02.Scaled -/
def c37 : AFn := ⟨2, 8, [.c 4 3 true],
 (.seq
  (.reg [⟨some 4, none, .alloc [(.bool false), (.int .u64 0), (.int .u64 0)]⟩])
  (.seq
   (.reg [⟨some 5, none, .mov (.t 0)⟩,
    ⟨some 6, none, .mov (.t 1)⟩,
    ⟨some 7, none, .call false 52 [(.t 5), (.t 6)]⟩,
    ⟨none, none, .store 3 (.t 4) (.t 7)⟩])
   .ret)), none⟩
def k37 : List (List Nat) := []
def o37 : List Nat := [3000000]
/-- tracebook/tracebookref02.Within -/
def c38 : AFn := ⟨2, 29, [.t 4, .t 5],
 (.seq
  (.reg [⟨some 2, none, .box (.t 0)⟩,
   ⟨some 4, none, .mov (.c (.int .i64 0))⟩,
   ⟨some 5, none, .mov (.c (.bool false))⟩])
  (.seq
   (.seq
    (.reg [⟨some 6, none, .faddr 1 (.t 2)⟩,
     ⟨some 7, none, .faddr 0 (.t 6)⟩,
     ⟨some 8, none, .load 1 false (.t 7)⟩,
     ⟨some 9, none, .bin .neq (.t 8) (.c (.int .u64 0))⟩,
     ⟨some 10, none, .mov (.t 9)⟩,
     ⟨some 11, some (10, false), .faddr 1 (.t 2)⟩,
     ⟨some 12, some (10, false), .faddr 1 (.t 11)⟩,
     ⟨some 13, some (10, false), .load 1 false (.t 12)⟩,
     ⟨some 14, some (10, false), .mov (.t 1)⟩,
     ⟨some 15, some (10, false), .conv (.int .u64) (.t 14)⟩,
     ⟨some 16, some (10, false), .bin .gtr (.t 13) (.t 15)⟩,
     ⟨some 17, none, .pick (.t 10) (.c (.bool true)) (.t 16)⟩])
    (.cond (.t 17)
     (.seq
      (.reg [⟨some 4, none, .mov (.c (.int .i64 0))⟩,
       ⟨some 5, none, .mov (.c (.bool false))⟩])
      .ret)
     .skip))
   (.seq
    (.seq
     (.reg [⟨some 18, none, .faddr 0 (.t 2)⟩,
      ⟨some 19, none, .load 1 false (.t 18)⟩])
     (.cond (.t 19)
      (.seq
       (.reg [⟨some 20, none, .faddr 1 (.t 2)⟩,
        ⟨some 21, none, .faddr 1 (.t 20)⟩,
        ⟨some 22, none, .load 1 false (.t 21)⟩,
        ⟨some 23, none, .conv (.int .i64) (.t 22)⟩,
        ⟨some 24, none, .un .neg (.t 23)⟩,
        ⟨some 4, none, .mov (.t 24)⟩,
        ⟨some 5, none, .mov (.c (.bool true))⟩])
       .ret)
      .skip))
    (.seq
     (.reg [⟨some 25, none, .faddr 1 (.t 2)⟩,
      ⟨some 26, none, .faddr 1 (.t 25)⟩,
      ⟨some 27, none, .load 1 false (.t 26)⟩,
      ⟨some 28, none, .conv (.int .i64) (.t 27)⟩,
      ⟨some 4, none, .mov (.t 28)⟩,
      ⟨some 5, none, .mov (.c (.bool true))⟩])
     .ret)))), none⟩
def k38 : List (List Nat) := []
def o38 : List Nat := [3000000]
/-- tracebook/tracebookref07.Check -/
def c39 : AFn := ⟨1, 80, [.t 2],
 (.seq
  (.reg [⟨some 1, none, .box (.t 0)⟩,
   ⟨some 2, none, .mov (.c (.int .i64 0))⟩])
  (.seq
   (.seq
    (.reg [⟨some 8, none, .faddr 0 (.t 1)⟩,
     ⟨some 9, none, .load 1 false (.t 8)⟩,
     ⟨some 10, none, .bin .lss (.t 9) (.c (.int .i64 0))⟩,
     ⟨some 11, none, .mov (.t 10)⟩,
     ⟨some 12, some (11, false), .faddr 0 (.t 1)⟩,
     ⟨some 13, some (11, false), .load 1 false (.t 12)⟩,
     ⟨some 14, some (11, false), .bin .gtr (.t 13) (.c (.int .i64 1000000000000))⟩,
     ⟨some 15, none, .pick (.t 11) (.c (.bool true)) (.t 14)⟩])
    (.cond (.t 15)
     (.seq
      (.reg [⟨some 2, none, .mov (.c (.int .i64 2))⟩])
      .ret)
     .skip))
   (.seq
    (.seq
     (.reg [⟨some 16, none, .faddr 1 (.t 1)⟩,
      ⟨some 17, none, .load 1 false (.t 16)⟩,
      ⟨some 18, none, .bin .lss (.t 17) (.c (.int .i64 1))⟩,
      ⟨some 19, none, .mov (.t 18)⟩,
      ⟨some 20, some (19, false), .faddr 1 (.t 1)⟩,
      ⟨some 21, some (19, false), .load 1 false (.t 20)⟩,
      ⟨some 22, some (19, false), .bin .gtr (.t 21) (.c (.int .i64 12))⟩,
      ⟨some 23, none, .pick (.t 19) (.c (.bool true)) (.t 22)⟩])
     (.cond (.t 23)
      (.seq
       (.reg [⟨some 2, none, .mov (.c (.int .i64 1))⟩])
       .ret)
      .skip))
    (.seq
     (.reg [⟨some 25, none, .faddr 1 (.t 1)⟩,
      ⟨some 26, none, .load 1 false (.t 25)⟩,
      ⟨some 27, none, .call false 53 [(.t 26)]⟩,
      ⟨some 24, none, .mov (.t 27)⟩,
      ⟨some 28, none, .ext (.t 24) 0⟩,
      ⟨some 29, none, .ext (.t 24) 1⟩,
      ⟨some 30, none, .ext (.t 24) 2⟩,
      ⟨some 31, none, .ext (.t 24) 3⟩,
      ⟨some 3, none, .mov (.t 28)⟩,
      ⟨some 4, none, .mov (.t 29)⟩,
      ⟨some 5, none, .mov (.t 30)⟩,
      ⟨some 6, none, .mov (.t 31)⟩])
     (.seq
      (.seq
       (.reg [⟨some 32, none, .mov (.t 3)⟩,
        ⟨some 33, none, .un .not (.t 32)⟩,
        ⟨some 34, none, .mov (.t 33)⟩,
        ⟨some 35, some (34, true), .faddr 2 (.t 1)⟩,
        ⟨some 36, some (34, true), .load 1 false (.t 35)⟩,
        ⟨some 37, some (34, true), .bin .neq (.t 36) (.c (.str []))⟩,
        ⟨some 38, none, .pick (.t 34) (.t 37) (.c (.bool false))⟩,
        ⟨some 39, none, .mov (.t 38)⟩,
        ⟨some 40, some (39, false), .mov (.t 4)⟩,
        ⟨some 41, some (39, false), .un .not (.t 40)⟩,
        ⟨some 42, some (39, false), .mov (.t 41)⟩,
        ⟨some 43, some (42, true), .faddr 3 (.t 1)⟩,
        ⟨some 44, some (42, true), .load 1 false (.t 43)⟩,
        ⟨some 45, some (42, true), .bin .neq (.t 44) (.c (.int .i64 0))⟩,
        ⟨some 46, some (39, false), .pick (.t 42) (.t 45) (.c (.bool false))⟩,
        ⟨some 47, none, .pick (.t 39) (.c (.bool true)) (.t 46)⟩,
        ⟨some 48, none, .mov (.t 47)⟩,
        ⟨some 49, some (48, false), .mov (.t 5)⟩,
        ⟨some 50, some (48, false), .un .not (.t 49)⟩,
        ⟨some 51, some (48, false), .mov (.t 50)⟩,
        ⟨some 52, some (51, true), .faddr 4 (.t 1)⟩,
        ⟨some 53, some (51, true), .load 1 false (.t 52)⟩,
        ⟨some 54, some (51, true), .bin .neq (.t 53) (.c (.int .i64 0))⟩,
        ⟨some 55, some (48, false), .pick (.t 51) (.t 54) (.c (.bool false))⟩,
        ⟨some 56, none, .pick (.t 48) (.c (.bool true)) (.t 55)⟩,
        ⟨some 57, none, .mov (.t 56)⟩,
        ⟨some 58, some (57, false), .mov (.t 6)⟩,
        ⟨some 59, some (57, false), .un .not (.t 58)⟩,
        ⟨some 60, some (57, false), .mov (.t 59)⟩,
        ⟨some 61, some (60, true), .faddr 5 (.t 1)⟩,
        ⟨some 62, some (60, true), .load 1 false (.t 61)⟩,
        ⟨some 63, some (60, true), .len (.t 62)⟩,
        ⟨some 64, some (60, true), .bin .gtr (.t 63) (.c (.int .i64 0))⟩,
        ⟨some 65, some (57, false), .pick (.t 60) (.t 64) (.c (.bool false))⟩,
        ⟨some 66, none, .pick (.t 57) (.c (.bool true)) (.t 65)⟩])
       (.cond (.t 66)
        (.seq
         (.reg [⟨some 2, none, .mov (.c (.int .i64 1))⟩])
         .ret)
        .skip))
      (.seq
       (.reg [⟨some 7, none, .mov (.c (.int .i64 0))⟩])
       (.seq
        (.seq
         (.reg [⟨some 67, none, .mov (.t 3)⟩])
         (.cond (.t 67)
          (.reg [⟨some 68, none, .faddr 2 (.t 1)⟩,
           ⟨some 69, none, .load 1 false (.t 68)⟩,
           ⟨some 70, none, .call false 31 [(.t 69)]⟩,
           ⟨some 7, none, .mov (.t 70)⟩])
          .skip))
        (.seq
         (.seq
          (.reg [⟨some 71, none, .mov (.t 6)⟩])
          (.cond (.t 71)
           (.reg [⟨some 72, none, .faddr 5 (.t 1)⟩,
            ⟨some 73, none, .load 1 false (.t 72)⟩,
            ⟨some 74, none, .call false 54 [(.t 73)]⟩,
            ⟨some 7, none, .mov (.t 74)⟩])
           .skip))
         (.seq
          (.seq
           (.reg [⟨some 75, none, .mov (.t 7)⟩,
            ⟨some 76, none, .bin .neq (.t 75) (.c (.int .i64 0))⟩])
           (.cond (.t 76)
            (.seq
             (.reg [⟨some 77, none, .mov (.t 7)⟩,
              ⟨some 2, none, .mov (.t 77)⟩])
             .ret)
            .skip))
          (.seq
           (.reg [⟨some 78, none, .load 6 true (.t 1)⟩,
            ⟨some 79, none, .call false 55 [(.t 78)]⟩,
            ⟨some 2, none, .mov (.t 79)⟩])
           .ret)))))))))), none⟩
def k39 : List (List Nat) := []
def o39 : List Nat := [3000000]
/-- tracebook/tracebookref26.Time -/
def c40 : AFn := ⟨1, 16, [.t 2],
 (.seq
  (.reg [⟨some 1, none, .box (.t 0)⟩,
   ⟨some 2, none, .mov (.c (.int .i64 0))⟩])
  (.seq
   (.block 0
    (.seq
     (.reg [⟨some 4, none, .faddr 8 (.t 1)⟩,
      ⟨some 5, none, .faddr 0 (.t 4)⟩,
      ⟨some 6, none, .load 1 false (.t 5)⟩,
      ⟨some 7, none, .bin .lss (.t 6) (.c (.int .i64 0))⟩,
      ⟨some 3, none, .mov (.t 7)⟩])
     (.cond (.t 3)
      (.seq
       (.reg [⟨some 2, none, .mov (.c (.int .i64 0))⟩])
       .ret)
      (.seq
       (.reg [⟨some 9, none, .faddr 8 (.t 1)⟩,
        ⟨some 10, none, .faddr 0 (.t 9)⟩,
        ⟨some 11, none, .load 1 false (.t 10)⟩,
        ⟨some 12, none, .bin .gtr (.t 11) (.c (.int .i64 1000000000000))⟩,
        ⟨some 8, none, .mov (.t 12)⟩])
       (.cond (.t 8)
        (.seq
         (.reg [⟨some 2, none, .mov (.c (.int .i64 1000000000000))⟩])
         .ret)
        .skip)))))
   (.seq
    (.reg [⟨some 13, none, .faddr 8 (.t 1)⟩,
     ⟨some 14, none, .faddr 0 (.t 13)⟩,
     ⟨some 15, none, .load 1 false (.t 14)⟩,
     ⟨some 2, none, .mov (.t 15)⟩])
    .ret))), none⟩
def k40 : List (List Nat) := []
def o40 : List Nat := [3000000]
def c41b0 : AC := (.seq
       (.seq
        (.reg [⟨some 8, none, .mov (.t 5)⟩,
         ⟨some 9, none, .bin .geq (.t 8) (.c (.int .i64 0))⟩])
        (.cond (.t 9)
         .skip
         (.exit 0)))
       (.seq
        (.block 1
         (.seq
          (.reg [⟨some 12, none, .mov (.t 0)⟩,
           ⟨some 13, none, .mov (.t 5)⟩,
           ⟨some 14, none, .iaddr (.slice 10) (.t 12) (.t 13)⟩,
           ⟨some 15, none, .faddr 0 (.t 14)⟩,
           ⟨some 16, none, .faddr 0 (.t 15)⟩,
           ⟨some 17, none, .load 1 false (.t 16)⟩,
           ⟨some 18, none, .mov (.t 0)⟩,
           ⟨some 19, none, .mov (.t 1)⟩,
           ⟨some 20, none, .iaddr (.slice 10) (.t 18) (.t 19)⟩,
           ⟨some 21, none, .faddr 0 (.t 20)⟩,
           ⟨some 22, none, .faddr 0 (.t 21)⟩,
           ⟨some 23, none, .load 1 false (.t 22)⟩,
           ⟨some 24, none, .bin .eql (.t 17) (.t 23)⟩])
          (.cond (.t 24)
           (.seq
            (.reg [⟨some 25, none, .mov (.t 5)⟩,
             ⟨some 4, none, .mov (.t 25)⟩])
            .ret)
           .skip)))
        (.reg [⟨some 10, none, .mov (.t 5)⟩,
         ⟨some 11, none, .bin .sub (.t 10) (.c (.int .i64 1))⟩,
         ⟨some 5, none, .mov (.t 11)⟩])))
/-- tracebook/tracebookref26.Previous -/
def c41 : AFn := ⟨2, 26, [.t 4],
 (.seq
  (.reg [⟨some 4, none, .mov (.c (.int .i64 0))⟩])
  (.seq
   (.seq
    (.reg [⟨some 6, none, .mov (.t 1)⟩,
     ⟨some 7, none, .bin .sub (.t 6) (.c (.int .i64 1))⟩,
     ⟨some 5, none, .mov (.t 7)⟩])
    (.block 0
     (.loop [0, 1, 5]
      c41b0)))
   (.seq
    (.reg [⟨some 4, none, .mov (.c (.int .i64 (-1)))⟩])
    .ret))), none⟩
def k41 : List (List Nat) := [[0, 1, 5]]
def o41 : List Nat := [3000000]
def c42b0 : AC := (.seq
              (.seq
               (.reg [⟨some 33, none, .mov (.t 8)⟩,
                ⟨some 34, none, .mov (.t 1)⟩,
                ⟨some 35, none, .bin .leq (.t 33) (.t 34)⟩])
               (.cond (.t 35)
                .skip
                (.exit 4)))
              (.block 5
               (.seq
                (.reg [⟨some 36, none, .mov (.t 0)⟩,
                 ⟨some 37, none, .mov (.t 7)⟩,
                 ⟨some 38, none, .mov (.t 7)⟩,
                 ⟨some 39, none, .mov (.t 6)⟩,
                 ⟨some 40, none, .bin .add (.t 38) (.t 39)⟩,
                 ⟨some 41, none, .mov (.t 8)⟩,
                 ⟨some 42, none, .mov (.t 2)⟩,
                 ⟨some 43, none, .call false 57 [(.t 36), (.t 37), (.t 40), (.t 41), (.t 42)]⟩])
                (.seq
                 (.reg [⟨some 44, none, .mov (.t 8)⟩,
                  ⟨some 7, none, .mov (.t 44)⟩])
                 (.reg [⟨some 45, none, .mov (.t 8)⟩,
                  ⟨some 46, none, .mov (.t 6)⟩,
                  ⟨some 47, none, .bin .mul (.c (.int .i64 2)) (.t 46)⟩,
                  ⟨some 48, none, .bin .add (.t 45) (.t 47)⟩,
                  ⟨some 8, none, .mov (.t 48)⟩])))))
def c42r0 : AC := (.seq
            (.seq
             (.reg [⟨some 49, none, .mov (.t 7)⟩,
              ⟨some 50, none, .mov (.t 6)⟩,
              ⟨some 51, none, .bin .add (.t 49) (.t 50)⟩,
              ⟨some 9, none, .mov (.t 51)⟩])
             (.seq
              (.reg [⟨some 52, none, .mov (.t 9)⟩,
               ⟨some 53, none, .mov (.t 1)⟩,
               ⟨some 54, none, .bin .lss (.t 52) (.t 53)⟩])
              (.cond (.t 54)
               (.reg [⟨some 55, none, .mov (.t 0)⟩,
                ⟨some 56, none, .mov (.t 7)⟩,
                ⟨some 57, none, .mov (.t 9)⟩,
                ⟨some 58, none, .mov (.t 1)⟩,
                ⟨some 59, none, .mov (.t 2)⟩,
                ⟨some 60, none, .call false 57 [(.t 55), (.t 56), (.t 57), (.t 58), (.t 59)]⟩])
               .skip)))
            (.reg [⟨some 61, none, .mov (.t 6)⟩,
             ⟨some 62, none, .bin .mul (.t 61) (.c (.int .i64 2))⟩,
             ⟨some 6, none, .mov (.t 62)⟩]))
def c42b1 : AC := (.seq
        (.seq
         (.reg [⟨some 28, none, .mov (.t 6)⟩,
          ⟨some 29, none, .mov (.t 1)⟩,
          ⟨some 30, none, .bin .lss (.t 28) (.t 29)⟩])
         (.cond (.t 30)
          .skip
          (.exit 2)))
        (.block 3
         (.seq
          (.reg [⟨some 31, none, .mov (.t 6)⟩,
           ⟨some 32, none, .bin .mul (.c (.int .i64 2)) (.t 31)⟩,
           ⟨some 7, none, .mov (.c (.int .i64 0))⟩,
           ⟨some 8, none, .mov (.t 32)⟩])
          (.seq
           (.block 4
            (.loop [0, 1, 2, 6, 7, 8]
             c42b0))
           c42r0))))
def c42b2 : AC := (.seq
       (.seq
        (.reg [⟨some 11, none, .mov (.t 8)⟩,
         ⟨some 12, none, .mov (.t 1)⟩,
         ⟨some 13, none, .bin .leq (.t 11) (.t 12)⟩])
        (.cond (.t 13)
         .skip
         (.exit 0)))
       (.block 1
        (.seq
         (.reg [⟨some 14, none, .mov (.t 0)⟩,
          ⟨some 15, none, .mov (.t 7)⟩,
          ⟨some 16, none, .mov (.t 8)⟩,
          ⟨some 17, none, .mov (.t 2)⟩,
          ⟨some 18, none, .call false 56 [(.t 14), (.t 15), (.t 16), (.t 17)]⟩])
         (.seq
          (.reg [⟨some 19, none, .mov (.t 8)⟩,
           ⟨some 7, none, .mov (.t 19)⟩])
          (.reg [⟨some 20, none, .mov (.t 8)⟩,
           ⟨some 21, none, .mov (.t 6)⟩,
           ⟨some 22, none, .bin .add (.t 20) (.t 21)⟩,
           ⟨some 8, none, .mov (.t 22)⟩])))))
def c42r1 : AC := (.seq
     (.reg [⟨some 23, none, .mov (.t 0)⟩,
      ⟨some 24, none, .mov (.t 7)⟩,
      ⟨some 25, none, .mov (.t 1)⟩,
      ⟨some 26, none, .mov (.t 2)⟩,
      ⟨some 27, none, .call false 56 [(.t 23), (.t 24), (.t 25), (.t 26)]⟩])
     (.block 2
      (.loop [0, 1, 2, 6]
       c42b1)))
/-- slices.stableCmpFunc[tracebook/api.Step] -/
def c42 : AFn := ⟨3, 63, [],
 (.seq
  (.reg [⟨some 6, none, .mov (.c (.int .i64 20))⟩])
  (.seq
   (.reg [⟨some 10, none, .mov (.t 6)⟩,
    ⟨some 7, none, .mov (.c (.int .i64 0))⟩,
    ⟨some 8, none, .mov (.t 10)⟩])
   (.seq
    (.block 0
     (.loop [0, 1, 2, 6, 7, 8]
      c42b2))
    c42r1))), none⟩
def k42 : List (List Nat) := [[0, 1, 2, 6, 7, 8], [0, 1, 2, 6], [0, 1, 2, 6, 7, 8]]
def o42 : List Nat := [3000000]
def c43b0 : AC := (.seq
        (.reg [⟨some 9, none, .bin .lss (.t 8) (.t 7)⟩])
        (.seq
         (.cond (.t 9)
          .skip
          (.exit 0))
         (.seq
          (.block 1
           (.seq
            (.reg [⟨some 10, none, .iaddr (.slice 1) (.t 6) (.t 8)⟩,
             ⟨some 11, none, .load 1 false (.t 10)⟩,
             ⟨some 5, none, .mov (.t 11)⟩])
            (.seq
             (.reg [⟨some 12, none, .mov (.t 5)⟩,
              ⟨some 13, none, .mov (.t 3)⟩,
              ⟨some 14, none, .bin .neq (.t 12) (.t 13)⟩])
             (.cond (.t 14)
              (.seq
               (.reg [⟨some 15, none, .mov (.t 5)⟩,
                ⟨some 2, none, .mov (.t 15)⟩])
               .ret)
              .skip))))
          (.reg [⟨some 16, none, .bin .add (.t 8) (.c (.int .i64 1))⟩,
           ⟨some 8, none, .mov (.t 16)⟩]))))
/-- cmp.Or[int] -/
def c43 : AFn := ⟨1, 18, [.t 2],
 (.seq
  (.reg [⟨some 2, none, .mov (.c (.int .i64 0))⟩])
  (.seq
   (.reg [⟨some 3, none, .mov (.c (.int .i64 0))⟩])
   (.seq
    (.seq
     (.reg [⟨some 6, none, .mov (.t 0)⟩,
      ⟨some 7, none, .len (.t 6)⟩,
      ⟨some 8, none, .mov (.c (.int .i64 0))⟩])
     (.block 0
      (.loop [3, 6, 7, 8]
       c43b0)))
    (.seq
     (.reg [⟨some 17, none, .mov (.t 3)⟩,
      ⟨some 2, none, .mov (.t 17)⟩])
     .ret)))), none⟩
def k43 : List (List Nat) := [[3, 6, 7, 8]]
def o43 : List Nat := [3000000]
/-- strings.Compare -/
def c44 : AFn := ⟨2, 8, [.t 4],
 (.seq
  (.reg [⟨some 4, none, .mov (.c (.int .i64 0))⟩])
  (.seq
   (.reg [⟨some 5, none, .mov (.t 0)⟩,
    ⟨some 6, none, .mov (.t 1)⟩,
    ⟨some 7, none, .call false 58 [(.t 5), (.t 6)]⟩,
    ⟨some 4, none, .mov (.t 7)⟩])
   .ret)), none⟩
def k44 : List (List Nat) := []
def o44 : List Nat := [3000000]
/-- cmp.Compare[int] -/
def c45 : AFn := ⟨2, 20, [.t 4],
 (.seq
  (.reg [⟨some 4, none, .mov (.c (.int .i64 0))⟩])
  (.seq
   (.reg [⟨some 7, none, .mov (.t 0)⟩,
    ⟨some 8, none, .call false 59 [(.t 7)]⟩,
    ⟨some 5, none, .mov (.t 8)⟩])
   (.seq
    (.reg [⟨some 9, none, .mov (.t 1)⟩,
     ⟨some 10, none, .call false 59 [(.t 9)]⟩,
     ⟨some 6, none, .mov (.t 10)⟩])
    (.seq
     (.seq
      (.reg [⟨some 11, none, .mov (.t 5)⟩])
      (.cond (.t 11)
       (.seq
        (.seq
         (.reg [⟨some 12, none, .mov (.t 6)⟩])
         (.cond (.t 12)
          (.seq
           (.reg [⟨some 4, none, .mov (.c (.int .i64 0))⟩])
           .ret)
          .skip))
        (.seq
         (.reg [⟨some 4, none, .mov (.c (.int .i64 (-1)))⟩])
         .ret))
       .skip))
     (.seq
      (.seq
       (.reg [⟨some 13, none, .mov (.t 6)⟩])
       (.cond (.t 13)
        (.seq
         (.reg [⟨some 4, none, .mov (.c (.int .i64 1))⟩])
         .ret)
        .skip))
      (.seq
       (.seq
        (.reg [⟨some 14, none, .mov (.t 0)⟩,
         ⟨some 15, none, .mov (.t 1)⟩,
         ⟨some 16, none, .bin .lss (.t 14) (.t 15)⟩])
        (.cond (.t 16)
         (.seq
          (.reg [⟨some 4, none, .mov (.c (.int .i64 (-1)))⟩])
          .ret)
         .skip))
       (.seq
        (.seq
         (.reg [⟨some 17, none, .mov (.t 0)⟩,
          ⟨some 18, none, .mov (.t 1)⟩,
          ⟨some 19, none, .bin .gtr (.t 17) (.t 18)⟩])
         (.cond (.t 19)
          (.seq
           (.reg [⟨some 4, none, .mov (.c (.int .i64 1))⟩])
           .ret)
          .skip))
        (.seq
         (.reg [⟨some 4, none, .mov (.c (.int .i64 0))⟩])
         .ret)))))))), none⟩
def k45 : List (List Nat) := []
def o45 : List Nat := [3000000]
def c46b0 : AC := (.seq
        (.seq
         (.reg [⟨some 15, none, .mov (.t 5)⟩,
          ⟨some 16, none, .mov (.t 0)⟩,
          ⟨some 17, none, .len (.t 16)⟩,
          ⟨some 18, none, .bin .lss (.t 15) (.t 17)⟩])
         (.cond (.t 18)
          .skip
          (.exit 0)))
        (.seq
         (.block 1
          (.seq
           (.reg [⟨some 21, none, .mov (.t 0)⟩,
            ⟨some 22, none, .mov (.t 5)⟩,
            ⟨some 23, none, .iaddr (.slice 10) (.t 21) (.t 22)⟩,
            ⟨some 24, none, .faddr 2 (.t 23)⟩,
            ⟨some 25, none, .faddr 1 (.t 24)⟩,
            ⟨some 26, none, .load 1 false (.t 25)⟩,
            ⟨some 27, none, .bin .eql (.t 26) (.c (.int .i64 4))⟩,
            ⟨some 28, none, .mov (.t 27)⟩,
            ⟨some 29, some (28, true), .mov (.t 0)⟩,
            ⟨some 30, some (28, true), .mov (.t 5)⟩,
            ⟨some 31, some (28, true), .iaddr (.slice 10) (.t 29) (.t 30)⟩,
            ⟨some 32, some (28, true), .faddr 2 (.t 31)⟩,
            ⟨some 33, some (28, true), .faddr 2 (.t 32)⟩,
            ⟨some 34, some (28, true), .load 1 false (.t 33)⟩,
            ⟨some 35, some (28, true), .mov (.t 0)⟩,
            ⟨some 36, some (28, true), .mov (.t 1)⟩,
            ⟨some 37, some (28, true), .iaddr (.slice 10) (.t 35) (.t 36)⟩,
            ⟨some 38, some (28, true), .faddr 2 (.t 37)⟩,
            ⟨some 39, some (28, true), .faddr 2 (.t 38)⟩,
            ⟨some 40, some (28, true), .load 1 false (.t 39)⟩,
            ⟨some 41, some (28, true), .bin .eql (.t 34) (.t 40)⟩,
            ⟨some 42, none, .pick (.t 28) (.t 41) (.c (.bool false))⟩,
            ⟨some 43, none, .mov (.t 42)⟩,
            ⟨some 44, some (43, true), .mov (.t 0)⟩,
            ⟨some 45, some (43, true), .mov (.t 5)⟩,
            ⟨some 46, some (43, true), .iaddr (.slice 10) (.t 44) (.t 45)⟩,
            ⟨some 47, some (43, true), .load 10 true (.t 46)⟩,
            ⟨some 48, some (43, true), .call false 40 [(.t 47)]⟩,
            ⟨some 49, some (43, true), .mov (.t 0)⟩,
            ⟨some 50, some (43, true), .mov (.t 1)⟩,
            ⟨some 51, some (43, true), .iaddr (.slice 10) (.t 49) (.t 50)⟩,
            ⟨some 52, some (43, true), .load 10 true (.t 51)⟩,
            ⟨some 53, some (43, true), .call false 40 [(.t 52)]⟩,
            ⟨some 54, some (43, true), .bin .eql (.t 48) (.t 53)⟩,
            ⟨some 55, none, .pick (.t 43) (.t 54) (.c (.bool false))⟩])
           (.cond (.t 55)
            (.seq
             (.reg [⟨some 4, none, .mov (.c (.bool false))⟩])
             .ret)
            .skip)))
         (.reg [⟨some 19, none, .mov (.t 5)⟩,
          ⟨some 20, none, .bin .add (.t 19) (.c (.int .i64 1))⟩,
          ⟨some 5, none, .mov (.t 20)⟩])))
/-- tracebook/tracebookref30.counts -/
def c46 : AFn := ⟨2, 56, [.t 4],
 (.seq
  (.reg [⟨some 4, none, .mov (.c (.bool false))⟩])
  (.seq
   (.seq
    (.reg [⟨some 6, none, .mov (.t 0)⟩,
     ⟨some 7, none, .mov (.t 1)⟩,
     ⟨some 8, none, .iaddr (.slice 10) (.t 6) (.t 7)⟩,
     ⟨some 9, none, .faddr 2 (.t 8)⟩,
     ⟨some 10, none, .faddr 1 (.t 9)⟩,
     ⟨some 11, none, .load 1 false (.t 10)⟩,
     ⟨some 12, none, .bin .neq (.t 11) (.c (.int .i64 4))⟩])
    (.cond (.t 12)
     (.seq
      (.reg [⟨some 4, none, .mov (.c (.bool false))⟩])
      .ret)
     .skip))
   (.seq
    (.seq
     (.reg [⟨some 13, none, .mov (.t 1)⟩,
      ⟨some 14, none, .bin .add (.t 13) (.c (.int .i64 1))⟩,
      ⟨some 5, none, .mov (.t 14)⟩])
     (.block 0
      (.loop [0, 1, 5]
       c46b0)))
    (.seq
     (.reg [⟨some 4, none, .mov (.c (.bool true))⟩])
     .ret)))), none⟩
def k46 : List (List Nat) := [[0, 1, 5]]
def o46 : List Nat := [3000000]
/-- tracebook/intern.isNameByte -/
def c47 : AFn := ⟨1, 34, [.t 2],
 (.seq
  (.reg [⟨some 2, none, .mov (.c (.bool false))⟩])
  (.seq
   (.block 0
    (.seq
     (.seq
      (.reg [⟨some 4, none, .mov (.t 0)⟩,
       ⟨some 5, none, .bin .leq (.c (.int .u8 97)) (.t 4)⟩,
       ⟨some 6, none, .mov (.t 5)⟩,
       ⟨some 7, some (6, true), .mov (.t 0)⟩,
       ⟨some 8, some (6, true), .bin .leq (.t 7) (.c (.int .u8 122))⟩,
       ⟨some 9, none, .pick (.t 6) (.t 8) (.c (.bool false))⟩,
       ⟨some 3, none, .mov (.t 9)⟩])
      (.cond (.t 3)
       .skip
       (.seq
        (.reg [⟨some 10, none, .mov (.t 0)⟩,
         ⟨some 11, none, .bin .leq (.c (.int .u8 65)) (.t 10)⟩,
         ⟨some 12, none, .mov (.t 11)⟩,
         ⟨some 13, some (12, true), .mov (.t 0)⟩,
         ⟨some 14, some (12, true), .bin .leq (.t 13) (.c (.int .u8 90))⟩,
         ⟨some 15, none, .pick (.t 12) (.t 14) (.c (.bool false))⟩,
         ⟨some 3, none, .mov (.t 15)⟩])
        (.cond (.t 3)
         .skip
         (.reg [⟨some 16, none, .mov (.t 0)⟩,
          ⟨some 17, none, .bin .leq (.c (.int .u8 48)) (.t 16)⟩,
          ⟨some 18, none, .mov (.t 17)⟩,
          ⟨some 19, some (18, true), .mov (.t 0)⟩,
          ⟨some 20, some (18, true), .bin .leq (.t 19) (.c (.int .u8 57))⟩,
          ⟨some 21, none, .pick (.t 18) (.t 20) (.c (.bool false))⟩,
          ⟨some 3, none, .mov (.t 21)⟩])))))
     (.cond (.t 3)
      (.seq
       (.reg [⟨some 2, none, .mov (.c (.bool true))⟩])
       .ret)
      .skip)))
   (.seq
    (.seq
     (.reg [⟨some 22, none, .mov (.t 0)⟩])
     (.block 1
      (.seq
       (.seq
        (.reg [⟨some 24, none, .bin .eql (.t 22) (.c (.int .u8 95))⟩,
         ⟨some 23, none, .mov (.t 24)⟩])
        (.cond (.t 23)
         .skip
         (.seq
          (.reg [⟨some 25, none, .bin .eql (.t 22) (.c (.int .u8 46))⟩,
           ⟨some 23, none, .mov (.t 25)⟩])
          (.cond (.t 23)
           .skip
           (.seq
            (.reg [⟨some 26, none, .bin .eql (.t 22) (.c (.int .u8 58))⟩,
             ⟨some 23, none, .mov (.t 26)⟩])
            (.cond (.t 23)
             .skip
             (.seq
              (.reg [⟨some 27, none, .bin .eql (.t 22) (.c (.int .u8 47))⟩,
               ⟨some 23, none, .mov (.t 27)⟩])
              (.cond (.t 23)
               .skip
               (.seq
                (.reg [⟨some 28, none, .bin .eql (.t 22) (.c (.int .u8 60))⟩,
                 ⟨some 23, none, .mov (.t 28)⟩])
                (.cond (.t 23)
                 .skip
                 (.seq
                  (.reg [⟨some 29, none, .bin .eql (.t 22) (.c (.int .u8 62))⟩,
                   ⟨some 23, none, .mov (.t 29)⟩])
                  (.cond (.t 23)
                   .skip
                   (.seq
                    (.reg [⟨some 30, none, .bin .eql (.t 22) (.c (.int .u8 36))⟩,
                     ⟨some 23, none, .mov (.t 30)⟩])
                    (.cond (.t 23)
                     .skip
                     (.seq
                      (.reg [⟨some 31, none, .bin .eql (.t 22) (.c (.int .u8 42))⟩,
                       ⟨some 23, none, .mov (.t 31)⟩])
                      (.cond (.t 23)
                       .skip
                       (.seq
                        (.reg [⟨some 32, none, .bin .eql (.t 22) (.c (.int .u8 126))⟩,
                         ⟨some 23, none, .mov (.t 32)⟩])
                        (.cond (.t 23)
                         .skip
                         (.reg [⟨some 33, none, .bin .eql (.t 22) (.c (.int .u8 45))⟩,
                          ⟨some 23, none, .mov (.t 33)⟩])))))))))))))))))))
       (.cond (.t 23)
        (.seq
         (.reg [⟨some 2, none, .mov (.c (.bool true))⟩])
         .ret)
        .skip))))
    (.seq
     (.reg [⟨some 2, none, .mov (.c (.bool false))⟩])
     .ret)))), none⟩
def k47 : List (List Nat) := []
def o47 : List Nat := [3000000]
def c48b0 : AC := (.seq
         (.seq
          (.reg [⟨some 27, none, .mov (.t 4)⟩,
           ⟨some 28, none, .mov (.t 3)⟩,
           ⟨some 29, none, .lenS (.t 28)⟩,
           ⟨some 30, none, .bin .lss (.t 27) (.t 29)⟩])
          (.cond (.t 30)
           .skip
           (.exit 0)))
         (.seq
          (.block 1
           (.seq
            (.reg [⟨some 33, none, .mov (.t 3)⟩,
             ⟨some 34, none, .mov (.t 4)⟩,
             ⟨some 35, none, .idxS (.t 33) (.t 34)⟩,
             ⟨some 36, none, .mov (.t 0)⟩,
             ⟨some 37, none, .bin .eql (.t 35) (.t 36)⟩])
            (.cond (.t 37)
             (.seq
              (.reg [⟨some 2, none, .mov (.c (.bool true))⟩])
              .ret)
             .skip)))
          (.reg [⟨some 31, none, .mov (.t 4)⟩,
           ⟨some 32, none, .bin .add (.t 31) (.c (.int .i64 1))⟩,
           ⟨some 4, none, .mov (.t 32)⟩])))
/-- tracebook/tracebookref06.letter -/
def c48 : AFn := ⟨1, 38, [.t 2],
 (.seq
  (.reg [⟨some 2, none, .mov (.c (.bool false))⟩])
  (.seq
   (.seq
    (.reg [⟨some 5, none, .mov (.t 0)⟩,
     ⟨some 6, none, .bin .geq (.t 5) (.c (.int .u8 97))⟩,
     ⟨some 7, none, .mov (.t 6)⟩,
     ⟨some 8, some (7, true), .mov (.t 0)⟩,
     ⟨some 9, some (7, true), .bin .leq (.t 8) (.c (.int .u8 122))⟩,
     ⟨some 10, none, .pick (.t 7) (.t 9) (.c (.bool false))⟩,
     ⟨some 11, none, .mov (.t 10)⟩,
     ⟨some 12, some (11, false), .mov (.t 0)⟩,
     ⟨some 13, some (11, false), .bin .geq (.t 12) (.c (.int .u8 65))⟩,
     ⟨some 14, some (11, false), .mov (.t 13)⟩,
     ⟨some 15, some (14, true), .mov (.t 0)⟩,
     ⟨some 16, some (14, true), .bin .leq (.t 15) (.c (.int .u8 90))⟩,
     ⟨some 17, some (11, false), .pick (.t 14) (.t 16) (.c (.bool false))⟩,
     ⟨some 18, none, .pick (.t 11) (.c (.bool true)) (.t 17)⟩,
     ⟨some 19, none, .mov (.t 18)⟩,
     ⟨some 20, some (19, false), .mov (.t 0)⟩,
     ⟨some 21, some (19, false), .bin .geq (.t 20) (.c (.int .u8 48))⟩,
     ⟨some 22, some (19, false), .mov (.t 21)⟩,
     ⟨some 23, some (22, true), .mov (.t 0)⟩,
     ⟨some 24, some (22, true), .bin .leq (.t 23) (.c (.int .u8 57))⟩,
     ⟨some 25, some (19, false), .pick (.t 22) (.t 24) (.c (.bool false))⟩,
     ⟨some 26, none, .pick (.t 19) (.c (.bool true)) (.t 25)⟩])
    (.cond (.t 26)
     (.seq
      (.reg [⟨some 2, none, .mov (.c (.bool true))⟩])
      .ret)
     .skip))
   (.seq
    (.reg [⟨some 3, none, .mov (.c (.str [95, 46, 58, 47, 60, 62, 36, 42, 126, 45]))⟩])
    (.seq
     (.seq
      (.reg [⟨some 4, none, .mov (.c (.int .i64 0))⟩])
      (.block 0
       (.loop [0, 3, 4]
        c48b0)))
     (.seq
      (.reg [⟨some 2, none, .mov (.c (.bool false))⟩])
      .ret))))), none⟩
def k48 : List (List Nat) := [[0, 3, 4]]
def o48 : List Nat := [3000000]
/-- math/bits.Mul64 -/
def c49 : AFn := ⟨2, 51, [.t 4, .t 5],
 (.seq
  (.reg [⟨some 4, none, .mov (.c (.int .u64 0))⟩,
   ⟨some 5, none, .mov (.c (.int .u64 0))⟩])
  (.seq
   (.reg [⟨some 14, none, .mov (.t 0)⟩,
    ⟨some 15, none, .bin .and (.t 14) (.c (.int .u64 4294967295))⟩,
    ⟨some 6, none, .mov (.t 15)⟩])
   (.seq
    (.reg [⟨some 16, none, .mov (.t 0)⟩,
     ⟨some 17, none, .bin .shr (.t 16) (.c (.int .u64 32))⟩,
     ⟨some 7, none, .mov (.t 17)⟩])
    (.seq
     (.reg [⟨some 18, none, .mov (.t 1)⟩,
      ⟨some 19, none, .bin .and (.t 18) (.c (.int .u64 4294967295))⟩,
      ⟨some 8, none, .mov (.t 19)⟩])
     (.seq
      (.reg [⟨some 20, none, .mov (.t 1)⟩,
       ⟨some 21, none, .bin .shr (.t 20) (.c (.int .u64 32))⟩,
       ⟨some 9, none, .mov (.t 21)⟩])
      (.seq
       (.reg [⟨some 22, none, .mov (.t 6)⟩,
        ⟨some 23, none, .mov (.t 8)⟩,
        ⟨some 24, none, .bin .mul (.t 22) (.t 23)⟩,
        ⟨some 10, none, .mov (.t 24)⟩])
       (.seq
        (.reg [⟨some 25, none, .mov (.t 7)⟩,
         ⟨some 26, none, .mov (.t 8)⟩,
         ⟨some 27, none, .bin .mul (.t 25) (.t 26)⟩,
         ⟨some 28, none, .mov (.t 10)⟩,
         ⟨some 29, none, .bin .shr (.t 28) (.c (.int .u64 32))⟩,
         ⟨some 30, none, .bin .add (.t 27) (.t 29)⟩,
         ⟨some 11, none, .mov (.t 30)⟩])
        (.seq
         (.reg [⟨some 31, none, .mov (.t 11)⟩,
          ⟨some 32, none, .bin .and (.t 31) (.c (.int .u64 4294967295))⟩,
          ⟨some 12, none, .mov (.t 32)⟩])
         (.seq
          (.reg [⟨some 33, none, .mov (.t 11)⟩,
           ⟨some 34, none, .bin .shr (.t 33) (.c (.int .u64 32))⟩,
           ⟨some 13, none, .mov (.t 34)⟩])
          (.seq
           (.reg [⟨some 35, none, .mov (.t 12)⟩,
            ⟨some 36, none, .mov (.t 6)⟩,
            ⟨some 37, none, .mov (.t 9)⟩,
            ⟨some 38, none, .bin .mul (.t 36) (.t 37)⟩,
            ⟨some 39, none, .bin .add (.t 35) (.t 38)⟩,
            ⟨some 12, none, .mov (.t 39)⟩])
           (.seq
            (.reg [⟨some 40, none, .mov (.t 7)⟩,
             ⟨some 41, none, .mov (.t 9)⟩,
             ⟨some 42, none, .bin .mul (.t 40) (.t 41)⟩,
             ⟨some 43, none, .mov (.t 13)⟩,
             ⟨some 44, none, .bin .add (.t 42) (.t 43)⟩,
             ⟨some 45, none, .mov (.t 12)⟩,
             ⟨some 46, none, .bin .shr (.t 45) (.c (.int .u64 32))⟩,
             ⟨some 47, none, .bin .add (.t 44) (.t 46)⟩,
             ⟨some 4, none, .mov (.t 47)⟩])
            (.seq
             (.reg [⟨some 48, none, .mov (.t 0)⟩,
              ⟨some 49, none, .mov (.t 1)⟩,
              ⟨some 50, none, .bin .mul (.t 48) (.t 49)⟩,
              ⟨some 5, none, .mov (.t 50)⟩])
             .ret)))))))))))), none⟩
def k49 : List (List Nat) := []
def o49 : List Nat := [3000000]
/-- tracebook/tracebookref02.sum -/
def c51 : AFn := ⟨2, 41, [.c 4 3 true],
 (.seq
  (.reg [⟨some 2, none, .box (.t 0)⟩,
   ⟨some 3, none, .box (.t 1)⟩,
   ⟨some 4, none, .alloc [(.bool false), (.int .u64 0), (.int .u64 0)]⟩])
  (.seq
   (.block 0
    (.seq
     (.reg [⟨some 6, none, .faddr 0 (.t 2)⟩,
      ⟨some 7, none, .load 1 false (.t 6)⟩,
      ⟨some 8, none, .faddr 0 (.t 3)⟩,
      ⟨some 9, none, .load 1 false (.t 8)⟩,
      ⟨some 10, none, .beq false (.t 7) (.t 9)⟩,
      ⟨some 5, none, .mov (.t 10)⟩])
     (.cond (.t 5)
      (.seq
       (.reg [⟨some 11, none, .faddr 0 (.t 2)⟩,
        ⟨some 12, none, .load 1 false (.t 11)⟩,
        ⟨some 13, none, .faddr 1 (.t 2)⟩,
        ⟨some 14, none, .load 2 true (.t 13)⟩,
        ⟨some 15, none, .faddr 1 (.t 3)⟩,
        ⟨some 16, none, .load 2 true (.t 15)⟩,
        ⟨some 17, none, .call false 60 [(.t 14), (.t 16)]⟩,
        ⟨some 18, none, .build [(.bool false), (.int .u64 0), (.int .u64 0)] [(0, 1, (.t 12)), (1, 2, (.t 17))]⟩,
        ⟨none, none, .store 3 (.t 4) (.t 18)⟩])
       .ret)
      (.seq
       (.reg [⟨some 20, none, .faddr 1 (.t 2)⟩,
        ⟨some 21, none, .load 2 true (.t 20)⟩,
        ⟨some 22, none, .faddr 1 (.t 3)⟩,
        ⟨some 23, none, .load 2 true (.t 22)⟩,
        ⟨some 24, none, .call false 61 [(.t 21), (.t 23)]⟩,
        ⟨some 19, none, .mov (.t 24)⟩])
       (.cond (.t 19)
        (.seq
         (.reg [⟨some 25, none, .faddr 0 (.t 3)⟩,
          ⟨some 26, none, .load 1 false (.t 25)⟩,
          ⟨some 27, none, .faddr 1 (.t 3)⟩,
          ⟨some 28, none, .load 2 true (.t 27)⟩,
          ⟨some 29, none, .faddr 1 (.t 2)⟩,
          ⟨some 30, none, .load 2 true (.t 29)⟩,
          ⟨some 31, none, .call false 62 [(.t 28), (.t 30)]⟩,
          ⟨some 32, none, .build [(.bool false), (.int .u64 0), (.int .u64 0)] [(0, 1, (.t 26)), (1, 2, (.t 31))]⟩,
          ⟨none, none, .store 3 (.t 4) (.t 32)⟩])
         .ret)
        .skip)))))
   (.seq
    (.reg [⟨some 33, none, .faddr 0 (.t 2)⟩,
     ⟨some 34, none, .load 1 false (.t 33)⟩,
     ⟨some 35, none, .faddr 1 (.t 2)⟩,
     ⟨some 36, none, .load 2 true (.t 35)⟩,
     ⟨some 37, none, .faddr 1 (.t 3)⟩,
     ⟨some 38, none, .load 2 true (.t 37)⟩,
     ⟨some 39, none, .call false 62 [(.t 36), (.t 38)]⟩,
     ⟨some 40, none, .build [(.bool false), (.int .u64 0), (.int .u64 0)] [(0, 1, (.t 34)), (1, 2, (.t 39))]⟩,
     ⟨none, none, .store 3 (.t 4) (.t 40)⟩])
    .ret))), none⟩
def k51 : List (List Nat) := []
def o51 : List Nat := [3000000]
/-- tracebook/tracebookref02.scaled -/
def c52 : AFn := ⟨2, 13, [.c 4 3 true],
 (.seq
  (.reg [⟨some 4, none, .alloc [(.bool false), (.int .u64 0), (.int .u64 0)]⟩])
  (.seq
   (.reg [⟨some 5, none, .mov (.t 0)⟩,
    ⟨some 6, none, .bin .lss (.t 5) (.c (.int .i64 0))⟩,
    ⟨some 7, none, .mov (.t 0)⟩,
    ⟨some 8, none, .call false 64 [(.t 7)]⟩,
    ⟨some 9, none, .mov (.t 1)⟩,
    ⟨some 10, none, .call false 64 [(.t 9)]⟩,
    ⟨some 11, none, .call false 63 [(.t 8), (.t 10)]⟩,
    ⟨some 12, none, .build [(.bool false), (.int .u64 0), (.int .u64 0)] [(0, 1, (.t 6)), (1, 2, (.t 11))]⟩,
    ⟨none, none, .store 3 (.t 4) (.t 12)⟩])
   .ret)), none⟩
def k52 : List (List Nat) := []
def o52 : List Nat := [3000000]
/-- tracebook/tracebookref07.uses -/
def c53 : AFn := ⟨1, 38, [.t 2, .t 3, .t 4, .t 5],
 (.seq
  (.reg [⟨some 2, none, .mov (.c (.bool false))⟩,
   ⟨some 3, none, .mov (.c (.bool false))⟩,
   ⟨some 4, none, .mov (.c (.bool false))⟩,
   ⟨some 5, none, .mov (.c (.bool false))⟩])
  (.seq
   (.reg [⟨some 10, none, .mov (.t 0)⟩,
    ⟨some 11, none, .bin .eql (.t 10) (.c (.int .i64 1))⟩,
    ⟨some 12, none, .mov (.t 11)⟩,
    ⟨some 13, some (12, false), .mov (.t 0)⟩,
    ⟨some 14, some (12, false), .bin .eql (.t 13) (.c (.int .i64 3))⟩,
    ⟨some 15, none, .pick (.t 12) (.c (.bool true)) (.t 14)⟩,
    ⟨some 16, none, .mov (.t 15)⟩,
    ⟨some 17, some (16, false), .mov (.t 0)⟩,
    ⟨some 18, some (16, false), .bin .eql (.t 17) (.c (.int .i64 4))⟩,
    ⟨some 19, none, .pick (.t 16) (.c (.bool true)) (.t 18)⟩,
    ⟨some 6, none, .mov (.t 19)⟩])
   (.seq
    (.reg [⟨some 20, none, .mov (.t 0)⟩,
     ⟨some 21, none, .bin .geq (.t 20) (.c (.int .i64 4))⟩,
     ⟨some 7, none, .mov (.t 21)⟩])
    (.seq
     (.reg [⟨some 22, none, .mov (.t 0)⟩,
      ⟨some 23, none, .bin .eql (.t 22) (.c (.int .i64 9))⟩,
      ⟨some 24, none, .mov (.t 23)⟩,
      ⟨some 25, some (24, false), .mov (.t 0)⟩,
      ⟨some 26, some (24, false), .bin .eql (.t 25) (.c (.int .i64 11))⟩,
      ⟨some 27, none, .pick (.t 24) (.c (.bool true)) (.t 26)⟩,
      ⟨some 8, none, .mov (.t 27)⟩])
     (.seq
      (.reg [⟨some 28, none, .mov (.t 0)⟩,
       ⟨some 29, none, .bin .eql (.t 28) (.c (.int .i64 5))⟩,
       ⟨some 30, none, .mov (.t 29)⟩,
       ⟨some 31, some (30, false), .mov (.t 0)⟩,
       ⟨some 32, some (30, false), .bin .eql (.t 31) (.c (.int .i64 11))⟩,
       ⟨some 33, none, .pick (.t 30) (.c (.bool true)) (.t 32)⟩,
       ⟨some 9, none, .mov (.t 33)⟩])
      (.seq
       (.reg [⟨some 34, none, .mov (.t 6)⟩,
        ⟨some 35, none, .mov (.t 7)⟩,
        ⟨some 36, none, .mov (.t 8)⟩,
        ⟨some 37, none, .mov (.t 9)⟩,
        ⟨some 2, none, .mov (.t 34)⟩,
        ⟨some 3, none, .mov (.t 35)⟩,
        ⟨some 4, none, .mov (.t 36)⟩,
        ⟨some 5, none, .mov (.t 37)⟩])
       .ret)))))), none⟩
def k53 : List (List Nat) := []
def o53 : List Nat := [3000000]
def c54b0 : AC := (.seq
        (.seq
         (.reg [⟨some 7, none, .mov (.t 3)⟩,
          ⟨some 8, none, .mov (.t 0)⟩,
          ⟨some 9, none, .len (.t 8)⟩,
          ⟨some 10, none, .bin .lss (.t 7) (.t 9)⟩])
         (.cond (.t 10)
          .skip
          (.exit 0)))
        (.seq
         (.block 1
          (.seq
           (.reg [⟨some 13, none, .mov (.t 0)⟩,
            ⟨some 14, none, .mov (.t 3)⟩,
            ⟨some 15, none, .iaddr (.slice 1) (.t 13) (.t 14)⟩,
            ⟨some 16, none, .load 1 false (.t 15)⟩,
            ⟨some 17, none, .call false 31 [(.t 16)]⟩,
            ⟨some 18, none, .bin .neq (.t 17) (.c (.int .i64 0))⟩])
           (.cond (.t 18)
            (.seq
             (.reg [⟨some 2, none, .mov (.c (.int .i64 3))⟩])
             .ret)
            .skip)))
         (.reg [⟨some 11, none, .mov (.t 3)⟩,
          ⟨some 12, none, .bin .add (.t 11) (.c (.int .i64 1))⟩,
          ⟨some 3, none, .mov (.t 12)⟩])))
/-- tracebook/tracebookref06.Frames -/
def c54 : AFn := ⟨1, 19, [.t 2],
 (.seq
  (.reg [⟨some 2, none, .mov (.c (.int .i64 0))⟩])
  (.seq
   (.seq
    (.reg [⟨some 4, none, .mov (.t 0)⟩,
     ⟨some 5, none, .len (.t 4)⟩,
     ⟨some 6, none, .bin .gtr (.t 5) (.c (.int .i64 32))⟩])
    (.cond (.t 6)
     (.seq
      (.reg [⟨some 2, none, .mov (.c (.int .i64 7))⟩])
      .ret)
     .skip))
   (.seq
    (.seq
     (.reg [⟨some 3, none, .mov (.c (.int .i64 0))⟩])
     (.block 0
      (.loop [0, 3]
       c54b0)))
    (.seq
     (.reg [⟨some 2, none, .mov (.c (.int .i64 0))⟩])
     .ret)))), none⟩
def k54 : List (List Nat) := [[0, 3]]
def o54 : List Nat := [3000000]
/-- tracebook/tracebookref07.numbers -/
def c55 : AFn := ⟨1, 63, [.t 2],
 (.seq
  (.reg [⟨some 1, none, .box (.t 0)⟩,
   ⟨some 2, none, .mov (.c (.int .i64 0))⟩])
  (.seq
   (.seq
    (.reg [⟨some 5, none, .faddr 1 (.t 1)⟩,
     ⟨some 6, none, .load 1 false (.t 5)⟩])
    (.block 0
     (.seq
      (.seq
       (.reg [⟨some 8, none, .bin .eql (.t 6) (.c (.int .i64 1))⟩,
        ⟨some 7, none, .mov (.t 8)⟩])
       (.cond (.t 7)
        .skip
        (.seq
         (.reg [⟨some 9, none, .bin .eql (.t 6) (.c (.int .i64 2))⟩,
          ⟨some 7, none, .mov (.t 9)⟩])
         (.cond (.t 7)
          .skip
          (.reg [⟨some 10, none, .bin .eql (.t 6) (.c (.int .i64 3))⟩,
           ⟨some 7, none, .mov (.t 10)⟩])))))
      (.cond (.t 7)
       (.seq
        (.reg [⟨some 2, none, .mov (.c (.int .i64 0))⟩])
        .ret)
       (.seq
        (.reg [⟨some 12, none, .bin .eql (.t 6) (.c (.int .i64 4))⟩,
         ⟨some 11, none, .mov (.t 12)⟩])
        (.cond (.t 11)
         (.seq
          (.reg [⟨some 13, none, .faddr 3 (.t 1)⟩,
           ⟨some 14, none, .load 1 false (.t 13)⟩,
           ⟨some 15, none, .call false 65 [(.t 14), (.c (.int .i64 (-1000000000000000))), (.c (.int .i64 1000000000000000))]⟩,
           ⟨some 2, none, .mov (.t 15)⟩])
          .ret)
         (.seq
          (.reg [⟨some 17, none, .bin .eql (.t 6) (.c (.int .i64 5))⟩,
           ⟨some 16, none, .mov (.t 17)⟩])
          (.cond (.t 16)
           (.seq
            (.reg [⟨some 18, none, .faddr 3 (.t 1)⟩,
             ⟨some 19, none, .load 1 false (.t 18)⟩,
             ⟨some 20, none, .call false 65 [(.t 19), (.c (.int .i64 1)), (.c (.int .i64 1000000000000))]⟩,
             ⟨some 2, none, .mov (.t 20)⟩])
            .ret)
           (.seq
            (.reg [⟨some 22, none, .bin .eql (.t 6) (.c (.int .i64 8))⟩,
             ⟨some 21, none, .mov (.t 22)⟩])
            (.cond (.t 21)
             (.seq
              (.reg [⟨some 23, none, .faddr 3 (.t 1)⟩,
               ⟨some 24, none, .load 1 false (.t 23)⟩,
               ⟨some 25, none, .call false 65 [(.t 24), (.c (.int .i64 0)), (.c (.int .i64 63))]⟩,
               ⟨some 2, none, .mov (.t 25)⟩])
              .ret)
             (.seq
              (.reg [⟨some 27, none, .bin .eql (.t 6) (.c (.int .i64 9))⟩,
               ⟨some 26, none, .mov (.t 27)⟩])
              (.cond (.t 26)
               (.seq
                (.reg [⟨some 28, none, .faddr 3 (.t 1)⟩,
                 ⟨some 29, none, .load 1 false (.t 28)⟩,
                 ⟨some 30, none, .call false 65 [(.t 29), (.c (.int .i64 0)), (.c (.int .i64 3))]⟩,
                 ⟨some 3, none, .mov (.t 30)⟩])
                (.seq
                 (.seq
                  (.reg [⟨some 31, none, .mov (.t 3)⟩,
                   ⟨some 32, none, .bin .eql (.t 31) (.c (.int .i64 0))⟩,
                   ⟨some 33, none, .mov (.t 32)⟩,
                   ⟨some 34, some (33, true), .faddr 3 (.t 1)⟩,
                   ⟨some 35, some (33, true), .load 1 false (.t 34)⟩,
                   ⟨some 36, some (33, true), .bin .eql (.t 35) (.c (.int .i64 2))⟩,
                   ⟨some 37, none, .pick (.t 33) (.t 36) (.c (.bool false))⟩])
                  (.cond (.t 37)
                   (.seq
                    (.reg [⟨some 38, none, .faddr 4 (.t 1)⟩,
                     ⟨some 39, none, .load 1 false (.t 38)⟩,
                     ⟨some 40, none, .call false 65 [(.t 39), (.c (.int .i64 0)), (.c (.int .i64 1000000000000000))]⟩,
                     ⟨some 2, none, .mov (.t 40)⟩])
                    .ret)
                   .skip))
                 (.seq
                  (.seq
                   (.reg [⟨some 41, none, .mov (.t 3)⟩,
                    ⟨some 42, none, .bin .eql (.t 41) (.c (.int .i64 0))⟩,
                    ⟨some 43, none, .mov (.t 42)⟩,
                    ⟨some 44, some (43, true), .faddr 4 (.t 1)⟩,
                    ⟨some 45, some (43, true), .load 1 false (.t 44)⟩,
                    ⟨some 46, some (43, true), .bin .neq (.t 45) (.c (.int .i64 0))⟩,
                    ⟨some 47, none, .pick (.t 43) (.t 46) (.c (.bool false))⟩])
                   (.cond (.t 47)
                    (.seq
                     (.reg [⟨some 2, none, .mov (.c (.int .i64 1))⟩])
                     .ret)
                    .skip))
                  (.seq
                   (.reg [⟨some 48, none, .mov (.t 3)⟩,
                    ⟨some 2, none, .mov (.t 48)⟩])
                   .ret))))
               .skip))))))))))))
   (.seq
    (.reg [⟨some 49, none, .faddr 3 (.t 1)⟩,
     ⟨some 50, none, .load 1 false (.t 49)⟩,
     ⟨some 51, none, .call false 65 [(.t 50), (.c (.int .i64 0)), (.c (.int .i64 1000000000000000))]⟩,
     ⟨some 4, none, .mov (.t 51)⟩])
    (.seq
     (.seq
      (.reg [⟨some 52, none, .mov (.t 4)⟩,
       ⟨some 53, none, .bin .eql (.t 52) (.c (.int .i64 0))⟩,
       ⟨some 54, none, .mov (.t 53)⟩,
       ⟨some 55, some (54, true), .faddr 1 (.t 1)⟩,
       ⟨some 56, some (54, true), .load 1 false (.t 55)⟩,
       ⟨some 57, some (54, true), .bin .eql (.t 56) (.c (.int .i64 11))⟩,
       ⟨some 58, none, .pick (.t 54) (.t 57) (.c (.bool false))⟩])
      (.cond (.t 58)
       (.seq
        (.reg [⟨some 59, none, .faddr 4 (.t 1)⟩,
         ⟨some 60, none, .load 1 false (.t 59)⟩,
         ⟨some 61, none, .call false 65 [(.t 60), (.c (.int .i64 1)), (.c (.int .i64 1000000000000))]⟩,
         ⟨some 2, none, .mov (.t 61)⟩])
        .ret)
       .skip))
     (.seq
      (.reg [⟨some 62, none, .mov (.t 4)⟩,
       ⟨some 2, none, .mov (.t 62)⟩])
      .ret))))), none⟩
def k55 : List (List Nat) := []
def o55 : List Nat := [3000000]
def c56b0 : AC := (.seq
           (.seq
            (.reg [⟨some 18, none, .mov (.t 9)⟩,
             ⟨some 19, none, .mov (.t 1)⟩,
             ⟨some 20, none, .bin .gtr (.t 18) (.t 19)⟩,
             ⟨some 21, none, .mov (.t 20)⟩,
             ⟨some 22, some (21, true), .mov (.t 3)⟩,
             ⟨some 23, some (21, true), .mov (.t 0)⟩,
             ⟨some 24, some (21, true), .mov (.t 9)⟩,
             ⟨some 25, some (21, true), .iaddr (.slice 3) (.t 23) (.t 24)⟩,
             ⟨some 26, some (21, true), .load 3 true (.t 25)⟩,
             ⟨some 27, some (21, true), .mov (.t 0)⟩,
             ⟨some 28, some (21, true), .mov (.t 9)⟩,
             ⟨some 29, some (21, true), .bin .sub (.t 28) (.c (.int .i64 1))⟩,
             ⟨some 30, some (21, true), .iaddr (.slice 3) (.t 27) (.t 29)⟩,
             ⟨some 31, some (21, true), .load 3 true (.t 30)⟩,
             ⟨some 32, some (21, true), .calld false (.t 22) [(.t 26), (.t 31)]⟩,
             ⟨some 33, some (21, true), .bin .lss (.t 32) (.c (.int .i64 0))⟩,
             ⟨some 34, none, .pick (.t 21) (.t 33) (.c (.bool false))⟩])
            (.cond (.t 34)
             .skip
             (.exit 2)))
           (.seq
            (.block 3
             (.reg [⟨some 37, none, .mov (.t 0)⟩,
              ⟨some 38, none, .mov (.t 9)⟩,
              ⟨some 39, none, .mov (.t 0)⟩,
              ⟨some 40, none, .mov (.t 9)⟩,
              ⟨some 41, none, .bin .sub (.t 40) (.c (.int .i64 1))⟩,
              ⟨some 42, none, .mov (.t 0)⟩,
              ⟨some 43, none, .mov (.t 9)⟩,
              ⟨some 44, none, .bin .sub (.t 43) (.c (.int .i64 1))⟩,
              ⟨some 45, none, .iaddr (.slice 3) (.t 42) (.t 44)⟩,
              ⟨some 46, none, .load 3 true (.t 45)⟩,
              ⟨some 47, none, .mov (.t 0)⟩,
              ⟨some 48, none, .mov (.t 9)⟩,
              ⟨some 49, none, .iaddr (.slice 3) (.t 47) (.t 48)⟩,
              ⟨some 50, none, .load 3 true (.t 49)⟩,
              ⟨some 51, none, .iaddr (.slice 3) (.t 37) (.t 38)⟩,
              ⟨none, none, .store 3 (.t 51) (.t 46)⟩,
              ⟨some 52, none, .iaddr (.slice 3) (.t 39) (.t 41)⟩,
              ⟨none, none, .store 3 (.t 52) (.t 50)⟩]))
            (.reg [⟨some 35, none, .mov (.t 9)⟩,
             ⟨some 36, none, .bin .sub (.t 35) (.c (.int .i64 1))⟩,
             ⟨some 9, none, .mov (.t 36)⟩])))
def c56b1 : AC := (.seq
     (.seq
      (.reg [⟨some 12, none, .mov (.t 8)⟩,
       ⟨some 13, none, .mov (.t 2)⟩,
       ⟨some 14, none, .bin .lss (.t 12) (.t 13)⟩])
      (.cond (.t 14)
       .skip
       (.exit 0)))
     (.seq
      (.block 1
       (.seq
        (.reg [⟨some 17, none, .mov (.t 8)⟩,
         ⟨some 9, none, .mov (.t 17)⟩])
        (.block 2
         (.loop [0, 1, 2, 3, 8, 9]
          c56b0))))
      (.reg [⟨some 15, none, .mov (.t 8)⟩,
       ⟨some 16, none, .bin .add (.t 15) (.c (.int .i64 1))⟩,
       ⟨some 8, none, .mov (.t 16)⟩])))
/-- slices.insertionSortCmpFunc[tracebook/api.Step] -/
def c56 : AFn := ⟨4, 53, [],
 (.seq
  (.reg [⟨some 10, none, .mov (.t 1)⟩,
   ⟨some 11, none, .bin .add (.t 10) (.c (.int .i64 1))⟩,
   ⟨some 8, none, .mov (.t 11)⟩])
  (.block 0
   (.loop [0, 1, 2, 3, 8]
    c56b1))), none⟩
def k56 : List (List Nat) := [[0, 1, 2, 3, 8], [0, 1, 2, 3, 8, 9]]
def o56 : List Nat := [3000000]
def c57b0 : AC := (.seq
            (.seq
             (.reg [⟨some 149, none, .mov (.t 20)⟩,
              ⟨some 150, none, .mov (.t 21)⟩,
              ⟨some 151, none, .bin .lss (.t 149) (.t 150)⟩])
             (.cond (.t 151)
              .skip
              (.exit 8)))
            (.block 9
             (.seq
              (.reg [⟨some 152, none, .mov (.t 20)⟩,
               ⟨some 153, none, .mov (.t 21)⟩,
               ⟨some 154, none, .bin .add (.t 152) (.t 153)⟩,
               ⟨some 155, none, .conv (.int .u64) (.t 154)⟩,
               ⟨some 156, none, .bin .shr (.t 155) (.c (.int .u64 1))⟩,
               ⟨some 157, none, .conv (.int .i64) (.t 156)⟩,
               ⟨some 23, none, .mov (.t 157)⟩])
              (.seq
               (.reg [⟨some 158, none, .mov (.t 4)⟩,
                ⟨some 159, none, .mov (.t 0)⟩,
                ⟨some 160, none, .mov (.t 22)⟩,
                ⟨some 161, none, .mov (.t 23)⟩,
                ⟨some 162, none, .bin .sub (.t 160) (.t 161)⟩,
                ⟨some 163, none, .iaddr (.slice 3) (.t 159) (.t 162)⟩,
                ⟨some 164, none, .load 3 true (.t 163)⟩,
                ⟨some 165, none, .mov (.t 0)⟩,
                ⟨some 166, none, .mov (.t 23)⟩,
                ⟨some 167, none, .iaddr (.slice 3) (.t 165) (.t 166)⟩,
                ⟨some 168, none, .load 3 true (.t 167)⟩,
                ⟨some 169, none, .calld false (.t 158) [(.t 164), (.t 168)]⟩,
                ⟨some 170, none, .bin .lss (.t 169) (.c (.int .i64 0))⟩,
                ⟨some 171, none, .un .not (.t 170)⟩])
               (.cond (.t 171)
                (.reg [⟨some 172, none, .mov (.t 23)⟩,
                 ⟨some 173, none, .bin .add (.t 172) (.c (.int .i64 1))⟩,
                 ⟨some 20, none, .mov (.t 173)⟩])
                (.reg [⟨some 174, none, .mov (.t 23)⟩,
                 ⟨some 21, none, .mov (.t 174)⟩]))))))
def c57b1 : AC := (.seq
             (.seq
              (.reg [⟨some 108, none, .mov (.t 17)⟩,
               ⟨some 109, none, .mov (.t 14)⟩,
               ⟨some 110, none, .bin .gtr (.t 108) (.t 109)⟩])
              (.cond (.t 110)
               .skip
               (.exit 6)))
             (.seq
              (.block 7
               (.reg [⟨some 113, none, .mov (.t 0)⟩,
                ⟨some 114, none, .mov (.t 17)⟩,
                ⟨some 115, none, .mov (.t 0)⟩,
                ⟨some 116, none, .mov (.t 17)⟩,
                ⟨some 117, none, .bin .sub (.t 116) (.c (.int .i64 1))⟩,
                ⟨some 118, none, .mov (.t 0)⟩,
                ⟨some 119, none, .mov (.t 17)⟩,
                ⟨some 120, none, .bin .sub (.t 119) (.c (.int .i64 1))⟩,
                ⟨some 121, none, .iaddr (.slice 3) (.t 118) (.t 120)⟩,
                ⟨some 122, none, .load 3 true (.t 121)⟩,
                ⟨some 123, none, .mov (.t 0)⟩,
                ⟨some 124, none, .mov (.t 17)⟩,
                ⟨some 125, none, .iaddr (.slice 3) (.t 123) (.t 124)⟩,
                ⟨some 126, none, .load 3 true (.t 125)⟩,
                ⟨some 127, none, .iaddr (.slice 3) (.t 113) (.t 114)⟩,
                ⟨none, none, .store 3 (.t 127) (.t 122)⟩,
                ⟨some 128, none, .iaddr (.slice 3) (.t 115) (.t 117)⟩,
                ⟨none, none, .store 3 (.t 128) (.t 126)⟩]))
              (.reg [⟨some 111, none, .mov (.t 17)⟩,
               ⟨some 112, none, .bin .sub (.t 111) (.c (.int .i64 1))⟩,
               ⟨some 17, none, .mov (.t 112)⟩])))
def c57b2 : AC := (.seq
           (.seq
            (.reg [⟨some 83, none, .mov (.t 14)⟩,
             ⟨some 84, none, .mov (.t 15)⟩,
             ⟨some 85, none, .bin .lss (.t 83) (.t 84)⟩])
            (.cond (.t 85)
             .skip
             (.exit 4)))
           (.block 5
            (.seq
             (.reg [⟨some 86, none, .mov (.t 14)⟩,
              ⟨some 87, none, .mov (.t 15)⟩,
              ⟨some 88, none, .bin .add (.t 86) (.t 87)⟩,
              ⟨some 89, none, .conv (.int .u64) (.t 88)⟩,
              ⟨some 90, none, .bin .shr (.t 89) (.c (.int .u64 1))⟩,
              ⟨some 91, none, .conv (.int .i64) (.t 90)⟩,
              ⟨some 16, none, .mov (.t 91)⟩])
             (.seq
              (.reg [⟨some 92, none, .mov (.t 4)⟩,
               ⟨some 93, none, .mov (.t 0)⟩,
               ⟨some 94, none, .mov (.t 2)⟩,
               ⟨some 95, none, .iaddr (.slice 3) (.t 93) (.t 94)⟩,
               ⟨some 96, none, .load 3 true (.t 95)⟩,
               ⟨some 97, none, .mov (.t 0)⟩,
               ⟨some 98, none, .mov (.t 16)⟩,
               ⟨some 99, none, .iaddr (.slice 3) (.t 97) (.t 98)⟩,
               ⟨some 100, none, .load 3 true (.t 99)⟩,
               ⟨some 101, none, .calld false (.t 92) [(.t 96), (.t 100)]⟩,
               ⟨some 102, none, .bin .lss (.t 101) (.c (.int .i64 0))⟩,
               ⟨some 103, none, .un .not (.t 102)⟩])
              (.cond (.t 103)
               (.reg [⟨some 104, none, .mov (.t 16)⟩,
                ⟨some 105, none, .bin .add (.t 104) (.c (.int .i64 1))⟩,
                ⟨some 14, none, .mov (.t 105)⟩])
               (.reg [⟨some 106, none, .mov (.t 16)⟩,
                ⟨some 15, none, .mov (.t 106)⟩]))))))
def c57b3 : AC := (.seq
            (.seq
             (.reg [⟨some 55, none, .mov (.t 13)⟩,
              ⟨some 56, none, .mov (.t 10)⟩,
              ⟨some 57, none, .bin .sub (.t 56) (.c (.int .i64 1))⟩,
              ⟨some 58, none, .bin .lss (.t 55) (.t 57)⟩])
             (.cond (.t 58)
              .skip
              (.exit 2)))
            (.seq
             (.block 3
              (.reg [⟨some 61, none, .mov (.t 0)⟩,
               ⟨some 62, none, .mov (.t 13)⟩,
               ⟨some 63, none, .mov (.t 0)⟩,
               ⟨some 64, none, .mov (.t 13)⟩,
               ⟨some 65, none, .bin .add (.t 64) (.c (.int .i64 1))⟩,
               ⟨some 66, none, .mov (.t 0)⟩,
               ⟨some 67, none, .mov (.t 13)⟩,
               ⟨some 68, none, .bin .add (.t 67) (.c (.int .i64 1))⟩,
               ⟨some 69, none, .iaddr (.slice 3) (.t 66) (.t 68)⟩,
               ⟨some 70, none, .load 3 true (.t 69)⟩,
               ⟨some 71, none, .mov (.t 0)⟩,
               ⟨some 72, none, .mov (.t 13)⟩,
               ⟨some 73, none, .iaddr (.slice 3) (.t 71) (.t 72)⟩,
               ⟨some 74, none, .load 3 true (.t 73)⟩,
               ⟨some 75, none, .iaddr (.slice 3) (.t 61) (.t 62)⟩,
               ⟨none, none, .store 3 (.t 75) (.t 70)⟩,
               ⟨some 76, none, .iaddr (.slice 3) (.t 63) (.t 65)⟩,
               ⟨none, none, .store 3 (.t 76) (.t 74)⟩]))
             (.reg [⟨some 59, none, .mov (.t 13)⟩,
              ⟨some 60, none, .bin .add (.t 59) (.c (.int .i64 1))⟩,
              ⟨some 13, none, .mov (.t 60)⟩])))
def c57b4 : AC := (.seq
          (.seq
           (.reg [⟨some 31, none, .mov (.t 10)⟩,
            ⟨some 32, none, .mov (.t 11)⟩,
            ⟨some 33, none, .bin .lss (.t 31) (.t 32)⟩])
           (.cond (.t 33)
            .skip
            (.exit 0)))
          (.block 1
           (.seq
            (.reg [⟨some 34, none, .mov (.t 10)⟩,
             ⟨some 35, none, .mov (.t 11)⟩,
             ⟨some 36, none, .bin .add (.t 34) (.t 35)⟩,
             ⟨some 37, none, .conv (.int .u64) (.t 36)⟩,
             ⟨some 38, none, .bin .shr (.t 37) (.c (.int .u64 1))⟩,
             ⟨some 39, none, .conv (.int .i64) (.t 38)⟩,
             ⟨some 12, none, .mov (.t 39)⟩])
            (.seq
             (.reg [⟨some 40, none, .mov (.t 4)⟩,
              ⟨some 41, none, .mov (.t 0)⟩,
              ⟨some 42, none, .mov (.t 12)⟩,
              ⟨some 43, none, .iaddr (.slice 3) (.t 41) (.t 42)⟩,
              ⟨some 44, none, .load 3 true (.t 43)⟩,
              ⟨some 45, none, .mov (.t 0)⟩,
              ⟨some 46, none, .mov (.t 1)⟩,
              ⟨some 47, none, .iaddr (.slice 3) (.t 45) (.t 46)⟩,
              ⟨some 48, none, .load 3 true (.t 47)⟩,
              ⟨some 49, none, .calld false (.t 40) [(.t 44), (.t 48)]⟩,
              ⟨some 50, none, .bin .lss (.t 49) (.c (.int .i64 0))⟩])
             (.cond (.t 50)
              (.reg [⟨some 51, none, .mov (.t 12)⟩,
               ⟨some 52, none, .bin .add (.t 51) (.c (.int .i64 1))⟩,
               ⟨some 10, none, .mov (.t 52)⟩])
              (.reg [⟨some 53, none, .mov (.t 12)⟩,
               ⟨some 11, none, .mov (.t 53)⟩]))))))
def c57r0 : AC := (.seq
          (.reg [⟨some 175, none, .mov (.t 19)⟩,
           ⟨some 176, none, .mov (.t 20)⟩,
           ⟨some 177, none, .bin .sub (.t 175) (.t 176)⟩,
           ⟨some 24, none, .mov (.t 177)⟩])
          (.seq
           (.seq
            (.reg [⟨some 178, none, .mov (.t 20)⟩,
             ⟨some 179, none, .mov (.t 2)⟩,
             ⟨some 180, none, .bin .lss (.t 178) (.t 179)⟩,
             ⟨some 181, none, .mov (.t 180)⟩,
             ⟨some 182, some (181, true), .mov (.t 2)⟩,
             ⟨some 183, some (181, true), .mov (.t 24)⟩,
             ⟨some 184, some (181, true), .bin .lss (.t 182) (.t 183)⟩,
             ⟨some 185, none, .pick (.t 181) (.t 184) (.c (.bool false))⟩])
            (.cond (.t 185)
             (.reg [⟨some 186, none, .mov (.t 0)⟩,
              ⟨some 187, none, .mov (.t 20)⟩,
              ⟨some 188, none, .mov (.t 2)⟩,
              ⟨some 189, none, .mov (.t 24)⟩,
              ⟨some 190, none, .mov (.t 4)⟩,
              ⟨some 191, none, .call false 66 [(.t 186), (.t 187), (.t 188), (.t 189), (.t 190)]⟩])
             .skip))
           (.seq
            (.seq
             (.reg [⟨some 192, none, .mov (.t 1)⟩,
              ⟨some 193, none, .mov (.t 20)⟩,
              ⟨some 194, none, .bin .lss (.t 192) (.t 193)⟩,
              ⟨some 195, none, .mov (.t 194)⟩,
              ⟨some 196, some (195, true), .mov (.t 20)⟩,
              ⟨some 197, some (195, true), .mov (.t 18)⟩,
              ⟨some 198, some (195, true), .bin .lss (.t 196) (.t 197)⟩,
              ⟨some 199, none, .pick (.t 195) (.t 198) (.c (.bool false))⟩])
             (.cond (.t 199)
              (.reg [⟨some 200, none, .mov (.t 0)⟩,
               ⟨some 201, none, .mov (.t 1)⟩,
               ⟨some 202, none, .mov (.t 20)⟩,
               ⟨some 203, none, .mov (.t 18)⟩,
               ⟨some 204, none, .mov (.t 4)⟩,
               ⟨some 205, none, .call false 57 [(.t 200), (.t 201), (.t 202), (.t 203), (.t 204)]⟩])
              .skip))
            (.seq
             (.reg [⟨some 206, none, .mov (.t 18)⟩,
              ⟨some 207, none, .mov (.t 24)⟩,
              ⟨some 208, none, .bin .lss (.t 206) (.t 207)⟩,
              ⟨some 209, none, .mov (.t 208)⟩,
              ⟨some 210, some (209, true), .mov (.t 24)⟩,
              ⟨some 211, some (209, true), .mov (.t 3)⟩,
              ⟨some 212, some (209, true), .bin .lss (.t 210) (.t 211)⟩,
              ⟨some 213, none, .pick (.t 209) (.t 212) (.c (.bool false))⟩])
             (.cond (.t 213)
              (.reg [⟨some 214, none, .mov (.t 0)⟩,
               ⟨some 215, none, .mov (.t 18)⟩,
               ⟨some 216, none, .mov (.t 24)⟩,
               ⟨some 217, none, .mov (.t 3)⟩,
               ⟨some 218, none, .mov (.t 4)⟩,
               ⟨some 219, none, .call false 57 [(.t 214), (.t 215), (.t 216), (.t 217), (.t 218)]⟩])
              .skip)))))
def c57r1 : AC := (.seq
         (.seq
          (.reg [⟨some 107, none, .mov (.t 2)⟩,
           ⟨some 17, none, .mov (.t 107)⟩])
          (.block 6
           (.loop [0, 14, 17]
            c57b1)))
         .ret)
def c57r2 : AC := (.seq
    (.reg [⟨some 129, none, .mov (.t 1)⟩,
     ⟨some 130, none, .mov (.t 3)⟩,
     ⟨some 131, none, .bin .add (.t 129) (.t 130)⟩,
     ⟨some 132, none, .conv (.int .u64) (.t 131)⟩,
     ⟨some 133, none, .bin .shr (.t 132) (.c (.int .u64 1))⟩,
     ⟨some 134, none, .conv (.int .i64) (.t 133)⟩,
     ⟨some 18, none, .mov (.t 134)⟩])
    (.seq
     (.reg [⟨some 135, none, .mov (.t 18)⟩,
      ⟨some 136, none, .mov (.t 2)⟩,
      ⟨some 137, none, .bin .add (.t 135) (.t 136)⟩,
      ⟨some 19, none, .mov (.t 137)⟩])
     (.seq
      (.reg [⟨some 20, none, .mov (.c (.int .i64 0))⟩,
       ⟨some 21, none, .mov (.c (.int .i64 0))⟩])
      (.seq
       (.seq
        (.reg [⟨some 138, none, .mov (.t 2)⟩,
         ⟨some 139, none, .mov (.t 18)⟩,
         ⟨some 140, none, .bin .gtr (.t 138) (.t 139)⟩])
        (.cond (.t 140)
         (.seq
          (.reg [⟨some 141, none, .mov (.t 19)⟩,
           ⟨some 142, none, .mov (.t 3)⟩,
           ⟨some 143, none, .bin .sub (.t 141) (.t 142)⟩,
           ⟨some 20, none, .mov (.t 143)⟩])
          (.reg [⟨some 144, none, .mov (.t 18)⟩,
           ⟨some 21, none, .mov (.t 144)⟩]))
         (.seq
          (.reg [⟨some 145, none, .mov (.t 1)⟩,
           ⟨some 20, none, .mov (.t 145)⟩])
          (.reg [⟨some 146, none, .mov (.t 2)⟩,
           ⟨some 21, none, .mov (.t 146)⟩]))))
       (.seq
        (.reg [⟨some 147, none, .mov (.t 19)⟩,
         ⟨some 148, none, .bin .sub (.t 147) (.c (.int .i64 1))⟩,
         ⟨some 22, none, .mov (.t 148)⟩])
        (.seq
         (.block 8
          (.loop [0, 1, 2, 3, 4, 18, 19, 20, 21, 22]
           c57b0))
         c57r0))))))
def c57r3 : AC := (.seq
        (.seq
         (.reg [⟨some 54, none, .mov (.t 1)⟩,
          ⟨some 13, none, .mov (.t 54)⟩])
         (.block 2
          (.loop [0, 10, 13]
           c57b3)))
        .ret)
def c57r4 : AC := (.seq
   (.seq
    (.reg [⟨some 77, none, .mov (.t 3)⟩,
     ⟨some 78, none, .mov (.t 2)⟩,
     ⟨some 79, none, .bin .sub (.t 77) (.t 78)⟩,
     ⟨some 80, none, .bin .eql (.t 79) (.c (.int .i64 1))⟩])
    (.cond (.t 80)
     (.seq
      (.reg [⟨some 81, none, .mov (.t 1)⟩,
       ⟨some 14, none, .mov (.t 81)⟩])
      (.seq
       (.reg [⟨some 82, none, .mov (.t 2)⟩,
        ⟨some 15, none, .mov (.t 82)⟩])
       (.seq
        (.block 4
         (.loop [0, 2, 4, 14, 15]
          c57b2))
        c57r1)))
     .skip))
   c57r2)
/-- slices.symMergeCmpFunc[tracebook/api.Step] -/
def c57 : AFn := ⟨5, 220, [],
 (.seq
  (.seq
   (.reg [⟨some 25, none, .mov (.t 2)⟩,
    ⟨some 26, none, .mov (.t 1)⟩,
    ⟨some 27, none, .bin .sub (.t 25) (.t 26)⟩,
    ⟨some 28, none, .bin .eql (.t 27) (.c (.int .i64 1))⟩])
   (.cond (.t 28)
    (.seq
     (.reg [⟨some 29, none, .mov (.t 2)⟩,
      ⟨some 10, none, .mov (.t 29)⟩])
     (.seq
      (.reg [⟨some 30, none, .mov (.t 3)⟩,
       ⟨some 11, none, .mov (.t 30)⟩])
      (.seq
       (.block 0
        (.loop [0, 1, 4, 10, 11]
         c57b4))
       c57r3)))
    .skip))
  c57r4), none⟩
def k57 : List (List Nat) := [[0, 1, 4, 10, 11], [0, 10, 13], [0, 2, 4, 14, 15], [0, 14, 17], [0, 1, 2, 3, 4, 18, 19, 20, 21, 22]]
def o57 : List Nat := [3000000]
/-- internal/bytealg.CompareString -/
def c58 : AFn := ⟨2, 8, [.t 4],
 (.seq
  (.reg [⟨some 4, none, .mov (.c (.int .i64 0))⟩])
  (.seq
   (.reg [⟨some 5, none, .mov (.t 0)⟩,
    ⟨some 6, none, .mov (.t 1)⟩,
    ⟨some 7, none, .call false 67 [(.t 5), (.t 6)]⟩,
    ⟨some 4, none, .mov (.t 7)⟩])
   .ret)), none⟩
def k58 : List (List Nat) := []
def o58 : List Nat := [3000000]
/-- cmp.isNaN[int] -/
def c59 : AFn := ⟨1, 6, [.t 2],
 (.seq
  (.reg [⟨some 2, none, .mov (.c (.bool false))⟩])
  (.seq
   (.reg [⟨some 3, none, .mov (.t 0)⟩,
    ⟨some 4, none, .mov (.t 0)⟩,
    ⟨some 5, none, .bin .neq (.t 3) (.t 4)⟩,
    ⟨some 2, none, .mov (.t 5)⟩])
   .ret)), none⟩
def k59 : List (List Nat) := []
def o59 : List Nat := [3000000]
/-- tracebook/tracebookref02.plus -/
def c60 : AFn := ⟨2, 27, [.c 4 2 true],
 (.seq
  (.reg [⟨some 2, none, .box (.t 0)⟩,
   ⟨some 3, none, .box (.t 1)⟩,
   ⟨some 4, none, .alloc [(.int .u64 0), (.int .u64 0)]⟩])
  (.seq
   (.reg [⟨some 6, none, .faddr 0 (.t 2)⟩,
    ⟨some 7, none, .load 1 false (.t 6)⟩,
    ⟨some 8, none, .faddr 0 (.t 3)⟩,
    ⟨some 9, none, .load 1 false (.t 8)⟩,
    ⟨some 10, none, .bin .add (.t 7) (.t 9)⟩,
    ⟨some 11, none, .faddr 1 (.t 2)⟩,
    ⟨some 12, none, .load 1 false (.t 11)⟩,
    ⟨some 13, none, .faddr 1 (.t 3)⟩,
    ⟨some 14, none, .load 1 false (.t 13)⟩,
    ⟨some 15, none, .bin .add (.t 12) (.t 14)⟩,
    ⟨some 16, none, .build [(.int .u64 0), (.int .u64 0)] [(0, 1, (.t 10)), (1, 1, (.t 15))]⟩,
    ⟨some 5, none, .alloc [(.int .u64 0), (.int .u64 0)]⟩,
    ⟨none, none, .store 2 (.t 5) (.t 16)⟩])
   (.seq
    (.seq
     (.reg [⟨some 17, none, .faddr 1 (.t 5)⟩,
      ⟨some 18, none, .load 1 false (.t 17)⟩,
      ⟨some 19, none, .faddr 1 (.t 2)⟩,
      ⟨some 20, none, .load 1 false (.t 19)⟩,
      ⟨some 21, none, .bin .lss (.t 18) (.t 20)⟩])
     (.cond (.t 21)
      (.reg [⟨some 22, none, .faddr 0 (.t 5)⟩,
       ⟨some 23, none, .load 1 false (.t 22)⟩,
       ⟨some 24, none, .bin .add (.t 23) (.c (.int .u64 1))⟩,
       ⟨some 25, none, .faddr 0 (.t 5)⟩,
       ⟨none, none, .store 1 (.t 25) (.t 24)⟩])
      .skip))
    (.seq
     (.reg [⟨some 26, none, .load 2 true (.t 5)⟩,
      ⟨none, none, .store 2 (.t 4) (.t 26)⟩])
     .ret)))), none⟩
def k60 : List (List Nat) := []
def o60 : List Nat := [3000000]
/-- tracebook/tracebookref02.less -/
def c61 : AFn := ⟨2, 24, [.t 4],
 (.seq
  (.reg [⟨some 2, none, .box (.t 0)⟩,
   ⟨some 3, none, .box (.t 1)⟩,
   ⟨some 4, none, .mov (.c (.bool false))⟩])
  (.seq
   (.reg [⟨some 5, none, .faddr 0 (.t 2)⟩,
    ⟨some 6, none, .load 1 false (.t 5)⟩,
    ⟨some 7, none, .faddr 0 (.t 3)⟩,
    ⟨some 8, none, .load 1 false (.t 7)⟩,
    ⟨some 9, none, .bin .lss (.t 6) (.t 8)⟩,
    ⟨some 10, none, .mov (.t 9)⟩,
    ⟨some 11, some (10, false), .faddr 0 (.t 2)⟩,
    ⟨some 12, some (10, false), .load 1 false (.t 11)⟩,
    ⟨some 13, some (10, false), .faddr 0 (.t 3)⟩,
    ⟨some 14, some (10, false), .load 1 false (.t 13)⟩,
    ⟨some 15, some (10, false), .bin .eql (.t 12) (.t 14)⟩,
    ⟨some 16, some (10, false), .mov (.t 15)⟩,
    ⟨some 17, some (16, true), .faddr 1 (.t 2)⟩,
    ⟨some 18, some (16, true), .load 1 false (.t 17)⟩,
    ⟨some 19, some (16, true), .faddr 1 (.t 3)⟩,
    ⟨some 20, some (16, true), .load 1 false (.t 19)⟩,
    ⟨some 21, some (16, true), .bin .lss (.t 18) (.t 20)⟩,
    ⟨some 22, some (10, false), .pick (.t 16) (.t 21) (.c (.bool false))⟩,
    ⟨some 23, none, .pick (.t 10) (.c (.bool true)) (.t 22)⟩,
    ⟨some 4, none, .mov (.t 23)⟩])
   .ret)), none⟩
def k61 : List (List Nat) := []
def o61 : List Nat := [3000000]
/-- tracebook/tracebookref02.minus -/
def c62 : AFn := ⟨2, 27, [.c 4 2 true],
 (.seq
  (.reg [⟨some 2, none, .box (.t 0)⟩,
   ⟨some 3, none, .box (.t 1)⟩,
   ⟨some 4, none, .alloc [(.int .u64 0), (.int .u64 0)]⟩])
  (.seq
   (.reg [⟨some 6, none, .faddr 0 (.t 2)⟩,
    ⟨some 7, none, .load 1 false (.t 6)⟩,
    ⟨some 8, none, .faddr 0 (.t 3)⟩,
    ⟨some 9, none, .load 1 false (.t 8)⟩,
    ⟨some 10, none, .bin .sub (.t 7) (.t 9)⟩,
    ⟨some 11, none, .faddr 1 (.t 2)⟩,
    ⟨some 12, none, .load 1 false (.t 11)⟩,
    ⟨some 13, none, .faddr 1 (.t 3)⟩,
    ⟨some 14, none, .load 1 false (.t 13)⟩,
    ⟨some 15, none, .bin .sub (.t 12) (.t 14)⟩,
    ⟨some 16, none, .build [(.int .u64 0), (.int .u64 0)] [(0, 1, (.t 10)), (1, 1, (.t 15))]⟩,
    ⟨some 5, none, .alloc [(.int .u64 0), (.int .u64 0)]⟩,
    ⟨none, none, .store 2 (.t 5) (.t 16)⟩])
   (.seq
    (.seq
     (.reg [⟨some 17, none, .faddr 1 (.t 2)⟩,
      ⟨some 18, none, .load 1 false (.t 17)⟩,
      ⟨some 19, none, .faddr 1 (.t 3)⟩,
      ⟨some 20, none, .load 1 false (.t 19)⟩,
      ⟨some 21, none, .bin .lss (.t 18) (.t 20)⟩])
     (.cond (.t 21)
      (.reg [⟨some 22, none, .faddr 0 (.t 5)⟩,
       ⟨some 23, none, .load 1 false (.t 22)⟩,
       ⟨some 24, none, .bin .sub (.t 23) (.c (.int .u64 1))⟩,
       ⟨some 25, none, .faddr 0 (.t 5)⟩,
       ⟨none, none, .store 1 (.t 25) (.t 24)⟩])
      .skip))
    (.seq
     (.reg [⟨some 26, none, .load 2 true (.t 5)⟩,
      ⟨none, none, .store 2 (.t 4) (.t 26)⟩])
     .ret)))), none⟩
def k62 : List (List Nat) := []
def o62 : List Nat := [3000000]
def c63b0 : AC := (.seq
        (.seq
         (.reg [⟨some 8, none, .mov (.t 6)⟩,
          ⟨some 9, none, .bin .geq (.t 8) (.c (.int .i64 0))⟩])
         (.cond (.t 9)
          .skip
          (.exit 0)))
        (.seq
         (.block 1
          (.seq
           (.reg [⟨some 12, none, .load 2 true (.t 5)⟩,
            ⟨some 13, none, .load 2 true (.t 5)⟩,
            ⟨some 14, none, .call false 60 [(.t 12), (.t 13)]⟩,
            ⟨none, none, .store 2 (.t 5) (.t 14)⟩])
           (.seq
            (.reg [⟨some 15, none, .mov (.t 1)⟩,
             ⟨some 16, none, .build [(.int .u64 0), (.int .u64 0)] [(1, 1, (.t 15))]⟩,
             ⟨some 17, none, .mov (.t 6)⟩,
             ⟨some 18, none, .call false 68 [(.t 16), (.t 17)]⟩,
             ⟨some 19, none, .bin .eql (.t 18) (.c (.int .u64 1))⟩])
            (.cond (.t 19)
             (.reg [⟨some 20, none, .load 2 true (.t 5)⟩,
              ⟨some 21, none, .mov (.t 0)⟩,
              ⟨some 22, none, .build [(.int .u64 0), (.int .u64 0)] [(1, 1, (.t 21))]⟩,
              ⟨some 23, none, .call false 60 [(.t 20), (.t 22)]⟩,
              ⟨none, none, .store 2 (.t 5) (.t 23)⟩])
             .skip))))
         (.reg [⟨some 10, none, .mov (.t 6)⟩,
          ⟨some 11, none, .bin .sub (.t 10) (.c (.int .i64 1))⟩,
          ⟨some 6, none, .mov (.t 11)⟩])))
/-- tracebook/tracebookref02.Times -/
def c63 : AFn := ⟨2, 25, [.c 4 2 true],
 (.seq
  (.reg [⟨some 4, none, .alloc [(.int .u64 0), (.int .u64 0)]⟩])
  (.seq
   (.reg [⟨some 7, none, .build [(.int .u64 0), (.int .u64 0)] []⟩,
    ⟨some 5, none, .alloc [(.int .u64 0), (.int .u64 0)]⟩,
    ⟨none, none, .store 2 (.t 5) (.t 7)⟩])
   (.seq
    (.seq
     (.reg [⟨some 6, none, .mov (.c (.int .i64 63))⟩])
     (.block 0
      (.loop [0, 1, 4, 5, 6]
       c63b0)))
    (.seq
     (.reg [⟨some 24, none, .load 2 true (.t 5)⟩,
      ⟨none, none, .store 2 (.t 4) (.t 24)⟩])
     .ret)))), none⟩
def k63 : List (List Nat) := [[0, 1, 4, 5, 6]]
def o63 : List Nat := [3000000]
/-- tracebook/tracebookref02.Size -/
def c64 : AFn := ⟨1, 12, [.t 2],
 (.seq
  (.reg [⟨some 2, none, .mov (.c (.int .u64 0))⟩])
  (.seq
   (.seq
    (.reg [⟨some 3, none, .mov (.t 0)⟩,
     ⟨some 4, none, .bin .lss (.t 3) (.c (.int .i64 0))⟩])
    (.cond (.t 4)
     (.seq
      (.reg [⟨some 5, none, .mov (.t 0)⟩,
       ⟨some 6, none, .bin .add (.t 5) (.c (.int .i64 1))⟩,
       ⟨some 7, none, .un .neg (.t 6)⟩,
       ⟨some 8, none, .conv (.int .u64) (.t 7)⟩,
       ⟨some 9, none, .bin .add (.t 8) (.c (.int .u64 1))⟩,
       ⟨some 2, none, .mov (.t 9)⟩])
      .ret)
     .skip))
   (.seq
    (.reg [⟨some 10, none, .mov (.t 0)⟩,
     ⟨some 11, none, .conv (.int .u64) (.t 10)⟩,
     ⟨some 2, none, .mov (.t 11)⟩])
    .ret))), none⟩
def k64 : List (List Nat) := []
def o64 : List Nat := [3000000]
/-- tracebook/tracebookref07.within -/
def c65 : AFn := ⟨3, 15, [.t 6],
 (.seq
  (.reg [⟨some 6, none, .mov (.c (.int .i64 0))⟩])
  (.seq
   (.seq
    (.reg [⟨some 7, none, .mov (.t 0)⟩,
     ⟨some 8, none, .mov (.t 1)⟩,
     ⟨some 9, none, .bin .lss (.t 7) (.t 8)⟩,
     ⟨some 10, none, .mov (.t 9)⟩,
     ⟨some 11, some (10, false), .mov (.t 0)⟩,
     ⟨some 12, some (10, false), .mov (.t 2)⟩,
     ⟨some 13, some (10, false), .bin .gtr (.t 11) (.t 12)⟩,
     ⟨some 14, none, .pick (.t 10) (.c (.bool true)) (.t 13)⟩])
    (.cond (.t 14)
     (.seq
      (.reg [⟨some 6, none, .mov (.c (.int .i64 2))⟩])
      .ret)
     .skip))
   (.seq
    (.reg [⟨some 6, none, .mov (.c (.int .i64 0))⟩])
    .ret))), none⟩
def k65 : List (List Nat) := []
def o65 : List Nat := [3000000]
def c66b0 : AC := (.seq
       (.seq
        (.reg [⟨some 18, none, .mov (.t 10)⟩,
         ⟨some 19, none, .mov (.t 11)⟩,
         ⟨some 20, none, .bin .neq (.t 18) (.t 19)⟩])
        (.cond (.t 20)
         .skip
         (.exit 0)))
       (.block 1
        (.seq
         (.reg [⟨some 21, none, .mov (.t 10)⟩,
          ⟨some 22, none, .mov (.t 11)⟩,
          ⟨some 23, none, .bin .gtr (.t 21) (.t 22)⟩])
         (.cond (.t 23)
          (.seq
           (.reg [⟨some 24, none, .mov (.t 0)⟩,
            ⟨some 25, none, .mov (.t 2)⟩,
            ⟨some 26, none, .mov (.t 10)⟩,
            ⟨some 27, none, .bin .sub (.t 25) (.t 26)⟩,
            ⟨some 28, none, .mov (.t 2)⟩,
            ⟨some 29, none, .mov (.t 11)⟩,
            ⟨some 30, none, .mov (.t 4)⟩,
            ⟨some 31, none, .call false 69 [(.t 24), (.t 27), (.t 28), (.t 29), (.t 30)]⟩])
           (.reg [⟨some 32, none, .mov (.t 10)⟩,
            ⟨some 33, none, .mov (.t 11)⟩,
            ⟨some 34, none, .bin .sub (.t 32) (.t 33)⟩,
            ⟨some 10, none, .mov (.t 34)⟩]))
          (.seq
           (.reg [⟨some 35, none, .mov (.t 0)⟩,
            ⟨some 36, none, .mov (.t 2)⟩,
            ⟨some 37, none, .mov (.t 10)⟩,
            ⟨some 38, none, .bin .sub (.t 36) (.t 37)⟩,
            ⟨some 39, none, .mov (.t 2)⟩,
            ⟨some 40, none, .mov (.t 11)⟩,
            ⟨some 41, none, .bin .add (.t 39) (.t 40)⟩,
            ⟨some 42, none, .mov (.t 10)⟩,
            ⟨some 43, none, .bin .sub (.t 41) (.t 42)⟩,
            ⟨some 44, none, .mov (.t 10)⟩,
            ⟨some 45, none, .mov (.t 4)⟩,
            ⟨some 46, none, .call false 69 [(.t 35), (.t 38), (.t 43), (.t 44), (.t 45)]⟩])
           (.reg [⟨some 47, none, .mov (.t 11)⟩,
            ⟨some 48, none, .mov (.t 10)⟩,
            ⟨some 49, none, .bin .sub (.t 47) (.t 48)⟩,
            ⟨some 11, none, .mov (.t 49)⟩]))))))
def c66r0 : AC := (.reg [⟨some 50, none, .mov (.t 0)⟩,
     ⟨some 51, none, .mov (.t 2)⟩,
     ⟨some 52, none, .mov (.t 10)⟩,
     ⟨some 53, none, .bin .sub (.t 51) (.t 52)⟩,
     ⟨some 54, none, .mov (.t 2)⟩,
     ⟨some 55, none, .mov (.t 10)⟩,
     ⟨some 56, none, .mov (.t 4)⟩,
     ⟨some 57, none, .call false 69 [(.t 50), (.t 53), (.t 54), (.t 55), (.t 56)]⟩])
/-- slices.rotateCmpFunc[tracebook/api.Step] -/
def c66 : AFn := ⟨5, 58, [],
 (.seq
  (.reg [⟨some 12, none, .mov (.t 2)⟩,
   ⟨some 13, none, .mov (.t 1)⟩,
   ⟨some 14, none, .bin .sub (.t 12) (.t 13)⟩,
   ⟨some 10, none, .mov (.t 14)⟩])
  (.seq
   (.reg [⟨some 15, none, .mov (.t 3)⟩,
    ⟨some 16, none, .mov (.t 2)⟩,
    ⟨some 17, none, .bin .sub (.t 15) (.t 16)⟩,
    ⟨some 11, none, .mov (.t 17)⟩])
   (.seq
    (.block 0
     (.loop [0, 2, 4, 10, 11]
      c66b0))
    c66r0))), none⟩
def k66 : List (List Nat) := [[0, 2, 4, 10, 11]]
def o66 : List Nat := [3000000]
/-- tracebook/tracebookref02.bit -/
def c68 : AFn := ⟨2, 20, [.t 4],
 (.seq
  (.reg [⟨some 2, none, .box (.t 0)⟩,
   ⟨some 4, none, .mov (.c (.int .u64 0))⟩])
  (.seq
   (.seq
    (.reg [⟨some 5, none, .mov (.t 1)⟩,
     ⟨some 6, none, .bin .geq (.t 5) (.c (.int .i64 64))⟩])
    (.cond (.t 6)
     (.seq
      (.reg [⟨some 7, none, .faddr 0 (.t 2)⟩,
       ⟨some 8, none, .load 1 false (.t 7)⟩,
       ⟨some 9, none, .mov (.t 1)⟩,
       ⟨some 10, none, .bin .sub (.t 9) (.c (.int .i64 64))⟩,
       ⟨some 11, none, .conv (.int .u64) (.t 10)⟩,
       ⟨some 12, none, .bin .shr (.t 8) (.t 11)⟩,
       ⟨some 13, none, .bin .rem (.t 12) (.c (.int .u64 2))⟩,
       ⟨some 4, none, .mov (.t 13)⟩])
      .ret)
     .skip))
   (.seq
    (.reg [⟨some 14, none, .faddr 1 (.t 2)⟩,
     ⟨some 15, none, .load 1 false (.t 14)⟩,
     ⟨some 16, none, .mov (.t 1)⟩,
     ⟨some 17, none, .conv (.int .u64) (.t 16)⟩,
     ⟨some 18, none, .bin .shr (.t 15) (.t 17)⟩,
     ⟨some 19, none, .bin .rem (.t 18) (.c (.int .u64 2))⟩,
     ⟨some 4, none, .mov (.t 19)⟩])
    .ret))), none⟩
def k68 : List (List Nat) := []
def o68 : List Nat := [3000000]
def c69b0 : AC := (.seq
     (.seq
      (.reg [⟨some 11, none, .mov (.t 10)⟩,
       ⟨some 12, none, .mov (.t 3)⟩,
       ⟨some 13, none, .bin .lss (.t 11) (.t 12)⟩])
      (.cond (.t 13)
       .skip
       (.exit 0)))
     (.seq
      (.block 1
       (.reg [⟨some 16, none, .mov (.t 0)⟩,
        ⟨some 17, none, .mov (.t 1)⟩,
        ⟨some 18, none, .mov (.t 10)⟩,
        ⟨some 19, none, .bin .add (.t 17) (.t 18)⟩,
        ⟨some 20, none, .mov (.t 0)⟩,
        ⟨some 21, none, .mov (.t 2)⟩,
        ⟨some 22, none, .mov (.t 10)⟩,
        ⟨some 23, none, .bin .add (.t 21) (.t 22)⟩,
        ⟨some 24, none, .mov (.t 0)⟩,
        ⟨some 25, none, .mov (.t 2)⟩,
        ⟨some 26, none, .mov (.t 10)⟩,
        ⟨some 27, none, .bin .add (.t 25) (.t 26)⟩,
        ⟨some 28, none, .iaddr (.slice 3) (.t 24) (.t 27)⟩,
        ⟨some 29, none, .load 3 true (.t 28)⟩,
        ⟨some 30, none, .mov (.t 0)⟩,
        ⟨some 31, none, .mov (.t 1)⟩,
        ⟨some 32, none, .mov (.t 10)⟩,
        ⟨some 33, none, .bin .add (.t 31) (.t 32)⟩,
        ⟨some 34, none, .iaddr (.slice 3) (.t 30) (.t 33)⟩,
        ⟨some 35, none, .load 3 true (.t 34)⟩,
        ⟨some 36, none, .iaddr (.slice 3) (.t 16) (.t 19)⟩,
        ⟨none, none, .store 3 (.t 36) (.t 29)⟩,
        ⟨some 37, none, .iaddr (.slice 3) (.t 20) (.t 23)⟩,
        ⟨none, none, .store 3 (.t 37) (.t 35)⟩]))
      (.reg [⟨some 14, none, .mov (.t 10)⟩,
       ⟨some 15, none, .bin .add (.t 14) (.c (.int .i64 1))⟩,
       ⟨some 10, none, .mov (.t 15)⟩])))
/-- slices.swapRangeCmpFunc[tracebook/api.Step] -/
def c69 : AFn := ⟨5, 38, [],
 (.seq
  (.reg [⟨some 10, none, .mov (.c (.int .i64 0))⟩])
  (.block 0
   (.loop [0, 1, 2, 3, 10]
    c69b0))), none⟩
def k69 : List (List Nat) := [[0, 1, 2, 3, 10]]
def o69 : List Nat := [3000000]
def c67 : AFn := ⟨1, 0, [], .skip, some (.p xCmp)⟩
def c50 : AFn := ⟨1, 0, [], .skip, some (.p xAdd64)⟩
def tbl : List (Nat × AFn) := [(50, c50), (67, c67), (3, c3), (4, c4), (5, c5), (6, c6), (7, c7), (8, c8), (9, c9), (10, c10), (11, c11), (12, c12), (13, c13), (14, c14), (15, c15), (16, c16), (17, c17), (18, c18), (19, c19), (20, c20), (21, c21), (22, c22), (23, c23), (24, c24), (25, c25), (26, c26), (27, c27), (28, c28), (29, c29), (30, c30), (31, c31), (32, c32), (33, c33), (34, c34), (35, c35), (36, c36), (37, c37), (38, c38), (39, c39), (40, c40), (41, c41), (42, c42), (43, c43), (44, c44), (45, c45), (46, c46), (47, c47), (48, c48), (49, c49), (51, c51), (52, c52), (53, c53), (54, c54), (55, c55), (56, c56), (57, c57), (58, c58), (59, c59), (60, c60), (61, c61), (62, c62), (63, c63), (64, c64), (65, c65), (66, c66), (68, c68), (69, c69)]
theorem d3 : digFn Try.prog o3 k3 Try.f3 = some c3 := by kernel_rfl
theorem d4 : digFn Try.prog o4 k4 Try.f4 = some c4 := by kernel_rfl
theorem d5 : digFn Try.prog o5 k5 Try.f5 = some c5 := by kernel_rfl
theorem d6 : digFn Try.prog o6 k6 Try.f6 = some c6 := by kernel_rfl
theorem d7 : digFn Try.prog o7 k7 Try.f7 = some c7 := by kernel_rfl
theorem d8 : digFn Try.prog o8 k8 Try.f8 = some c8 := by kernel_rfl
theorem d9 : digFn Try.prog o9 k9 Try.f9 = some c9 := by kernel_rfl
theorem d10 : digFn Try.prog o10 k10 Try.f10 = some c10 := by kernel_rfl
theorem d11 : digFn Try.prog o11 k11 Try.f11 = some c11 := by kernel_rfl
theorem d12 : digFn Try.prog o12 k12 Try.f12 = some c12 := by kernel_rfl
theorem d13 : digFn Try.prog o13 k13 Try.f13 = some c13 := by kernel_rfl
theorem d14 : digFn Try.prog o14 k14 Try.f14 = some c14 := by kernel_rfl
theorem d15 : digFn Try.prog o15 k15 Try.f15 = some c15 := by kernel_rfl
theorem d16 : digFn Try.prog o16 k16 Try.f16 = some c16 := by kernel_rfl
theorem d17 : digFn Try.prog o17 k17 Try.f17 = some c17 := by kernel_rfl
theorem d18 : digFn Try.prog o18 k18 Try.f18 = some c18 := by kernel_rfl
theorem d19 : digFn Try.prog o19 k19 Try.f19 = some c19 := by kernel_rfl
theorem d20 : digFn Try.prog o20 k20 Try.f20 = some c20 := by kernel_rfl
theorem d21 : digFn Try.prog o21 k21 Try.f21 = some c21 := by kernel_rfl
theorem d22 : digFn Try.prog o22 k22 Try.f22 = some c22 := by kernel_rfl
theorem d23 : digFn Try.prog o23 k23 Try.f23 = some c23 := by kernel_rfl
theorem d24 : digFn Try.prog o24 k24 Try.f24 = some c24 := by kernel_rfl
theorem d25 : digFn Try.prog o25 k25 Try.f25 = some c25 := by kernel_rfl
theorem d26 : digFn Try.prog o26 k26 Try.f26 = some c26 := by kernel_rfl
theorem d27 : digFn Try.prog o27 k27 Try.f27 = some c27 := by kernel_rfl
theorem d28 : digFn Try.prog o28 k28 Try.f28 = some c28 := by kernel_rfl
theorem d29 : digFn Try.prog o29 k29 Try.f29 = some c29 := by kernel_rfl
theorem d30 : digFn Try.prog o30 k30 Try.f30 = some c30 := by kernel_rfl
theorem d31 : digFn Try.prog o31 k31 Try.f31 = some c31 := by kernel_rfl
theorem d32 : digFn Try.prog o32 k32 Try.f32 = some c32 := by kernel_rfl
theorem d33 : digFn Try.prog o33 k33 Try.f33 = some c33 := by kernel_rfl
theorem d34 : digFn Try.prog o34 k34 Try.f34 = some c34 := by kernel_rfl
theorem d35 : digFn Try.prog o35 k35 Try.f35 = some c35 := by kernel_rfl
theorem d36 : digFn Try.prog o36 k36 Try.f36 = some c36 := by kernel_rfl
theorem d37 : digFn Try.prog o37 k37 Try.f37 = some c37 := by kernel_rfl
theorem d38 : digFn Try.prog o38 k38 Try.f38 = some c38 := by kernel_rfl
theorem d39 : digFn Try.prog o39 k39 Try.f39 = some c39 := by kernel_rfl
theorem d40 : digFn Try.prog o40 k40 Try.f40 = some c40 := by kernel_rfl
theorem d41 : digFn Try.prog o41 k41 Try.f41 = some c41 := by kernel_rfl
theorem d42 : digFn Try.prog o42 k42 Try.f42 = some c42 := by kernel_rfl
theorem d43 : digFn Try.prog o43 k43 Try.f43 = some c43 := by kernel_rfl
theorem d44 : digFn Try.prog o44 k44 Try.f44 = some c44 := by kernel_rfl
theorem d45 : digFn Try.prog o45 k45 Try.f45 = some c45 := by kernel_rfl
theorem d46 : digFn Try.prog o46 k46 Try.f46 = some c46 := by kernel_rfl
theorem d47 : digFn Try.prog o47 k47 Try.f47 = some c47 := by kernel_rfl
theorem d48 : digFn Try.prog o48 k48 Try.f48 = some c48 := by kernel_rfl
theorem d49 : digFn Try.prog o49 k49 Try.f49 = some c49 := by kernel_rfl
theorem d51 : digFn Try.prog o51 k51 Try.f51 = some c51 := by kernel_rfl
theorem d52 : digFn Try.prog o52 k52 Try.f52 = some c52 := by kernel_rfl
theorem d53 : digFn Try.prog o53 k53 Try.f53 = some c53 := by kernel_rfl
theorem d54 : digFn Try.prog o54 k54 Try.f54 = some c54 := by kernel_rfl
theorem d55 : digFn Try.prog o55 k55 Try.f55 = some c55 := by kernel_rfl
theorem d56 : digFn Try.prog o56 k56 Try.f56 = some c56 := by kernel_rfl
theorem d57 : digFn Try.prog o57 k57 Try.f57 = some c57 := by kernel_rfl
theorem d58 : digFn Try.prog o58 k58 Try.f58 = some c58 := by kernel_rfl
theorem d59 : digFn Try.prog o59 k59 Try.f59 = some c59 := by kernel_rfl
theorem d60 : digFn Try.prog o60 k60 Try.f60 = some c60 := by kernel_rfl
theorem d61 : digFn Try.prog o61 k61 Try.f61 = some c61 := by kernel_rfl
theorem d62 : digFn Try.prog o62 k62 Try.f62 = some c62 := by kernel_rfl
theorem d63 : digFn Try.prog o63 k63 Try.f63 = some c63 := by kernel_rfl
theorem d64 : digFn Try.prog o64 k64 Try.f64 = some c64 := by kernel_rfl
theorem d65 : digFn Try.prog o65 k65 Try.f65 = some c65 := by kernel_rfl
theorem d66 : digFn Try.prog o66 k66 Try.f66 = some c66 := by kernel_rfl
theorem d68 : digFn Try.prog o68 k68 Try.f68 = some c68 := by kernel_rfl
theorem d69 : digFn Try.prog o69 k69 Try.f69 = some c69 := by kernel_rfl
def Dg (f : Nat) : Option AFn := lookP tbl f
theorem D3 : Dg 3 = some c3 := by kernel_rfl
theorem D4 : Dg 4 = some c4 := by kernel_rfl
theorem D5 : Dg 5 = some c5 := by kernel_rfl
theorem D6 : Dg 6 = some c6 := by kernel_rfl
theorem D7 : Dg 7 = some c7 := by kernel_rfl
theorem D8 : Dg 8 = some c8 := by kernel_rfl
theorem D9 : Dg 9 = some c9 := by kernel_rfl
theorem D10 : Dg 10 = some c10 := by kernel_rfl
theorem D11 : Dg 11 = some c11 := by kernel_rfl
theorem D12 : Dg 12 = some c12 := by kernel_rfl
theorem D13 : Dg 13 = some c13 := by kernel_rfl
theorem D14 : Dg 14 = some c14 := by kernel_rfl
theorem D15 : Dg 15 = some c15 := by kernel_rfl
theorem D16 : Dg 16 = some c16 := by kernel_rfl
theorem D17 : Dg 17 = some c17 := by kernel_rfl
theorem D18 : Dg 18 = some c18 := by kernel_rfl
theorem D19 : Dg 19 = some c19 := by kernel_rfl
theorem D20 : Dg 20 = some c20 := by kernel_rfl
theorem D21 : Dg 21 = some c21 := by kernel_rfl
theorem D22 : Dg 22 = some c22 := by kernel_rfl
theorem D23 : Dg 23 = some c23 := by kernel_rfl
theorem D24 : Dg 24 = some c24 := by kernel_rfl
theorem D25 : Dg 25 = some c25 := by kernel_rfl
theorem D26 : Dg 26 = some c26 := by kernel_rfl
theorem D27 : Dg 27 = some c27 := by kernel_rfl
theorem D28 : Dg 28 = some c28 := by kernel_rfl
theorem D29 : Dg 29 = some c29 := by kernel_rfl
theorem D30 : Dg 30 = some c30 := by kernel_rfl
theorem D31 : Dg 31 = some c31 := by kernel_rfl
theorem D32 : Dg 32 = some c32 := by kernel_rfl
theorem D33 : Dg 33 = some c33 := by kernel_rfl
theorem D34 : Dg 34 = some c34 := by kernel_rfl
theorem D35 : Dg 35 = some c35 := by kernel_rfl
theorem D36 : Dg 36 = some c36 := by kernel_rfl
theorem D37 : Dg 37 = some c37 := by kernel_rfl
theorem D38 : Dg 38 = some c38 := by kernel_rfl
theorem D39 : Dg 39 = some c39 := by kernel_rfl
theorem D40 : Dg 40 = some c40 := by kernel_rfl
theorem D41 : Dg 41 = some c41 := by kernel_rfl
theorem D42 : Dg 42 = some c42 := by kernel_rfl
theorem D43 : Dg 43 = some c43 := by kernel_rfl
theorem D44 : Dg 44 = some c44 := by kernel_rfl
theorem D45 : Dg 45 = some c45 := by kernel_rfl
theorem D46 : Dg 46 = some c46 := by kernel_rfl
theorem D47 : Dg 47 = some c47 := by kernel_rfl
theorem D48 : Dg 48 = some c48 := by kernel_rfl
theorem D49 : Dg 49 = some c49 := by kernel_rfl
theorem D51 : Dg 51 = some c51 := by kernel_rfl
theorem D52 : Dg 52 = some c52 := by kernel_rfl
theorem D53 : Dg 53 = some c53 := by kernel_rfl
theorem D54 : Dg 54 = some c54 := by kernel_rfl
theorem D55 : Dg 55 = some c55 := by kernel_rfl
theorem D56 : Dg 56 = some c56 := by kernel_rfl
theorem D57 : Dg 57 = some c57 := by kernel_rfl
theorem D58 : Dg 58 = some c58 := by kernel_rfl
theorem D59 : Dg 59 = some c59 := by kernel_rfl
theorem D60 : Dg 60 = some c60 := by kernel_rfl
theorem D61 : Dg 61 = some c61 := by kernel_rfl
theorem D62 : Dg 62 = some c62 := by kernel_rfl
theorem D63 : Dg 63 = some c63 := by kernel_rfl
theorem D64 : Dg 64 = some c64 := by kernel_rfl
theorem D65 : Dg 65 = some c65 := by kernel_rfl
theorem D66 : Dg 66 = some c66 := by kernel_rfl
theorem D68 : Dg 68 = some c68 := by kernel_rfl
theorem D69 : Dg 69 = some c69 := by kernel_rfl
theorem D67 : Dg 67 = some c67 := by kernel_rfl
theorem D50 : Dg 50 = some c50 := by kernel_rfl
theorem dokL [Bs] : ∀ x ∈ tbl, FnOk Try.prog x.1 x.2 :=
  all_cons (show FnOk Try.prog 50 c50 from ext50) (
  all_cons (show FnOk Try.prog 67 c67 from ext67) (
  all_cons (fnok Try.func3 d3) (
  all_cons (fnok Try.func4 d4) (
  all_cons (fnok Try.func5 d5) (
  all_cons (fnok Try.func6 d6) (
  all_cons (fnok Try.func7 d7) (
  all_cons (fnok Try.func8 d8) (
  all_cons (fnok Try.func9 d9) (
  all_cons (fnok Try.func10 d10) (
  all_cons (fnok Try.func11 d11) (
  all_cons (fnok Try.func12 d12) (
  all_cons (fnok Try.func13 d13) (
  all_cons (fnok Try.func14 d14) (
  all_cons (fnok Try.func15 d15) (
  all_cons (fnok Try.func16 d16) (
  all_cons (fnok Try.func17 d17) (
  all_cons (fnok Try.func18 d18) (
  all_cons (fnok Try.func19 d19) (
  all_cons (fnok Try.func20 d20) (
  all_cons (fnok Try.func21 d21) (
  all_cons (fnok Try.func22 d22) (
  all_cons (fnok Try.func23 d23) (
  all_cons (fnok Try.func24 d24) (
  all_cons (fnok Try.func25 d25) (
  all_cons (fnok Try.func26 d26) (
  all_cons (fnok Try.func27 d27) (
  all_cons (fnok Try.func28 d28) (
  all_cons (fnok Try.func29 d29) (
  all_cons (fnok Try.func30 d30) (
  all_cons (fnok Try.func31 d31) (
  all_cons (fnok Try.func32 d32) (
  all_cons (fnok Try.func33 d33) (
  all_cons (fnok Try.func34 d34) (
  all_cons (fnok Try.func35 d35) (
  all_cons (fnok Try.func36 d36) (
  all_cons (fnok Try.func37 d37) (
  all_cons (fnok Try.func38 d38) (
  all_cons (fnok Try.func39 d39) (
  all_cons (fnok Try.func40 d40) (
  all_cons (fnok Try.func41 d41) (
  all_cons (fnok Try.func42 d42) (
  all_cons (fnok Try.func43 d43) (
  all_cons (fnok Try.func44 d44) (
  all_cons (fnok Try.func45 d45) (
  all_cons (fnok Try.func46 d46) (
  all_cons (fnok Try.func47 d47) (
  all_cons (fnok Try.func48 d48) (
  all_cons (fnok Try.func49 d49) (
  all_cons (fnok Try.func51 d51) (
  all_cons (fnok Try.func52 d52) (
  all_cons (fnok Try.func53 d53) (
  all_cons (fnok Try.func54 d54) (
  all_cons (fnok Try.func55 d55) (
  all_cons (fnok Try.func56 d56) (
  all_cons (fnok Try.func57 d57) (
  all_cons (fnok Try.func58 d58) (
  all_cons (fnok Try.func59 d59) (
  all_cons (fnok Try.func60 d60) (
  all_cons (fnok Try.func61 d61) (
  all_cons (fnok Try.func62 d62) (
  all_cons (fnok Try.func63 d63) (
  all_cons (fnok Try.func64 d64) (
  all_cons (fnok Try.func65 d65) (
  all_cons (fnok Try.func66 d66) (
  all_cons (fnok Try.func68 d68) (
  all_cons (fnok Try.func69 d69) (
  all_nil)))))))))))))))))))))))))))))))))))))))))))))))))))))))))))))))))))
theorem dok (bs : Bs) : DOk Try.prog Dg := fun f fc h => dokL (f, fc) (lookP_mem h)

end Go.Proofs.Ytecmcggnpgjbiaa
