/- The code of the functions, as it is read. -/
import Derived.Test.YtkdalahepedghaaSs
import Derived.Test.YtkdalahepedghaaProg
namespace Go.Proofs.Ytkdalahepedghaa
open Go
/-- tracebook/tracebooklaw14.ClockChecks -/
def c3 : AFn := ⟨2, 20, [.t 4],
 (.seq
  (.reg [⟨some 4, none, .mov (.c (.bool false))⟩])
  (.seq
   (.seq
    (.reg [⟨some 5, none, .mov (.t 0)⟩,
     ⟨some 6, none, .mov (.t 1)⟩,
     ⟨some 7, none, .call false 10 [(.t 5), (.t 6)]⟩,
     ⟨some 8, none, .un .not (.t 7)⟩])
    (.cond (.t 8)
     (.seq
      (.reg [⟨some 9, none, .call false 11 []⟩,
       ⟨some 4, none, .mov (.t 9)⟩])
      .ret)
     .skip))
   (.seq
    (.reg [⟨some 10, none, .mov (.t 0)⟩,
     ⟨some 11, none, .mov (.t 1)⟩,
     ⟨some 12, none, .call false 12 [(.t 10), (.t 11)]⟩,
     ⟨some 13, none, .mov (.t 0)⟩,
     ⟨some 14, none, .mov (.t 1)⟩,
     ⟨some 15, none, .call false 13 [(.t 13), (.t 14)]⟩,
     ⟨some 16, none, .bin .eql (.t 12) (.t 15)⟩,
     ⟨some 17, none, .mov (.t 16)⟩,
     ⟨some 18, some (17, true), .call false 11 []⟩,
     ⟨some 19, none, .pick (.t 17) (.t 18) (.c (.bool false))⟩,
     ⟨some 4, none, .mov (.t 19)⟩])
    .ret))), none⟩
def k3 : List (List Nat) := []
def o3 : List Nat := [1000028, 1000029, 1000035, 1000037, 1000038, 1000039, 1000041, 1000042, 1000044, 1000045, 1000048, 3000000]
def c4b0 : AC := (.seq
           (.seq
            (.reg [⟨some 36, none, .mov (.t 9)⟩,
             ⟨some 37, none, .mov (.t 0)⟩,
             ⟨some 38, none, .len (.t 37)⟩,
             ⟨some 39, none, .bin .lss (.t 36) (.t 38)⟩,
             ⟨some 40, none, .mov (.t 39)⟩,
             ⟨some 41, some (40, true), .mov (.t 0)⟩,
             ⟨some 42, some (40, true), .call false 12 [(.t 41), (.c .nilS)]⟩,
             ⟨some 43, some (40, true), .bin .eql (.t 42) (.c (.int .i64 0))⟩,
             ⟨some 44, none, .pick (.t 40) (.t 43) (.c (.bool false))⟩])
            (.cond (.t 44)
             .skip
             (.exit 0)))
           (.seq
            (.block 1
             (.seq
              (.reg [⟨some 48, none, .mov (.t 0)⟩,
               ⟨some 49, none, .mov (.t 0)⟩,
               ⟨some 50, none, .mov (.t 9)⟩,
               ⟨some 51, none, .iaddr (.slice 2) (.t 49) (.t 50)⟩,
               ⟨some 52, none, .faddr 0 (.t 51)⟩,
               ⟨some 53, none, .load 1 false (.t 52)⟩,
               ⟨some 54, none, .call false 14 [(.t 48), (.t 53)]⟩,
               ⟨some 47, none, .mov (.t 54)⟩,
               ⟨some 55, none, .ext (.t 47) 0⟩,
               ⟨some 56, none, .ext (.t 47) 1⟩,
               ⟨some 10, none, .mov (.t 55)⟩,
               ⟨some 11, none, .mov (.t 56)⟩])
              (.seq
               (.reg [⟨some 57, none, .mov (.t 10)⟩,
                ⟨some 58, none, .mov (.t 0)⟩,
                ⟨some 59, none, .mov (.t 9)⟩,
                ⟨some 60, none, .iaddr (.slice 2) (.t 58) (.t 59)⟩,
                ⟨some 61, none, .faddr 1 (.t 60)⟩,
                ⟨some 62, none, .load 1 false (.t 61)⟩,
                ⟨some 63, none, .bin .neq (.t 57) (.t 62)⟩,
                ⟨some 64, none, .mov (.t 63)⟩,
                ⟨some 65, some (64, false), .mov (.t 11)⟩,
                ⟨some 66, some (64, false), .un .not (.t 65)⟩,
                ⟨some 67, none, .pick (.t 64) (.c (.bool true)) (.t 66)⟩])
               (.cond (.t 67)
                (.seq
                 (.reg [⟨some 4, none, .mov (.c (.bool false))⟩])
                 .ret)
                .skip))))
            (.reg [⟨some 45, none, .mov (.t 9)⟩,
             ⟨some 46, none, .bin .add (.t 45) (.c (.int .i64 1))⟩,
             ⟨some 9, none, .mov (.t 46)⟩])))
def c4r0 : AC := (.seq
        (.reg [⟨some 68, none, .call false 11 []⟩,
         ⟨some 4, none, .mov (.t 68)⟩])
        .ret)
/-- tracebook/tracebooklaw14.ClockRates -/
def c4 : AFn := ⟨2, 69, [.t 4],
 (.seq
  (.reg [⟨some 4, none, .mov (.c (.bool false))⟩])
  (.seq
   (.seq
    (.reg [⟨some 12, none, .mov (.t 0)⟩,
     ⟨some 13, none, .call false 10 [(.t 12), (.c .nilS)]⟩,
     ⟨some 14, none, .un .not (.t 13)⟩])
    (.cond (.t 14)
     (.seq
      (.reg [⟨some 15, none, .call false 11 []⟩,
       ⟨some 4, none, .mov (.t 15)⟩])
      .ret)
     .skip))
   (.seq
    (.reg [⟨some 17, none, .mov (.t 0)⟩,
     ⟨some 18, none, .mov (.t 1)⟩,
     ⟨some 19, none, .call false 14 [(.t 17), (.t 18)]⟩,
     ⟨some 16, none, .mov (.t 19)⟩,
     ⟨some 20, none, .ext (.t 16) 0⟩,
     ⟨some 21, none, .ext (.t 16) 1⟩,
     ⟨some 5, none, .mov (.t 20)⟩,
     ⟨some 6, none, .mov (.t 21)⟩])
    (.seq
     (.reg [⟨some 23, none, .mov (.t 0)⟩,
      ⟨some 24, none, .mov (.t 1)⟩,
      ⟨some 25, none, .call false 15 [(.t 23), (.t 24)]⟩,
      ⟨some 22, none, .mov (.t 25)⟩,
      ⟨some 26, none, .ext (.t 22) 0⟩,
      ⟨some 27, none, .ext (.t 22) 1⟩,
      ⟨some 7, none, .mov (.t 26)⟩,
      ⟨some 8, none, .mov (.t 27)⟩])
     (.seq
      (.seq
       (.reg [⟨some 28, none, .mov (.t 5)⟩,
        ⟨some 29, none, .mov (.t 7)⟩,
        ⟨some 30, none, .bin .neq (.t 28) (.t 29)⟩,
        ⟨some 31, none, .mov (.t 30)⟩,
        ⟨some 32, some (31, false), .mov (.t 6)⟩,
        ⟨some 33, some (31, false), .mov (.t 8)⟩,
        ⟨some 34, some (31, false), .beq true (.t 32) (.t 33)⟩,
        ⟨some 35, none, .pick (.t 31) (.c (.bool true)) (.t 34)⟩])
       (.cond (.t 35)
        (.seq
         (.reg [⟨some 4, none, .mov (.c (.bool false))⟩])
         .ret)
        .skip))
      (.seq
       (.seq
        (.reg [⟨some 9, none, .mov (.c (.int .i64 0))⟩])
        (.block 0
         (.loop [0, 9]
          c4b0)))
       c4r0)))))), none⟩
def k4 : List (List Nat) := [[0, 9]]
def o4 : List Nat := [1000028, 1000029, 1000035, 1000037, 1000038, 1000039, 1000041, 1000042, 1000044, 1000045, 1000048, 3000000]
/-- tracebook/tracebooklaw14.ClockLinks -/
def c5 : AFn := ⟨3, 24, [.t 6],
 (.seq
  (.reg [⟨some 6, none, .mov (.c (.bool false))⟩])
  (.seq
   (.seq
    (.reg [⟨some 7, none, .mov (.t 0)⟩,
     ⟨some 8, none, .mov (.t 1)⟩,
     ⟨some 9, none, .call false 10 [(.t 7), (.t 8)]⟩,
     ⟨some 10, none, .un .not (.t 9)⟩])
    (.cond (.t 10)
     (.seq
      (.reg [⟨some 11, none, .call false 11 []⟩,
       ⟨some 6, none, .mov (.t 11)⟩])
      .ret)
     .skip))
   (.seq
    (.reg [⟨some 12, none, .mov (.t 0)⟩,
     ⟨some 13, none, .mov (.t 1)⟩,
     ⟨some 14, none, .mov (.t 2)⟩,
     ⟨some 15, none, .call false 16 [(.t 12), (.t 13), (.t 14)]⟩,
     ⟨some 16, none, .mov (.t 0)⟩,
     ⟨some 17, none, .mov (.t 1)⟩,
     ⟨some 18, none, .mov (.t 2)⟩,
     ⟨some 19, none, .call false 17 [(.t 16), (.t 17), (.t 18)]⟩,
     ⟨some 20, none, .beq false (.t 15) (.t 19)⟩,
     ⟨some 21, none, .mov (.t 20)⟩,
     ⟨some 22, some (21, true), .call false 11 []⟩,
     ⟨some 23, none, .pick (.t 21) (.t 22) (.c (.bool false))⟩,
     ⟨some 6, none, .mov (.t 23)⟩])
    .ret))), none⟩
def k5 : List (List Nat) := []
def o5 : List Nat := [1000028, 1000029, 1000035, 1000037, 1000038, 1000039, 1000041, 1000042, 1000044, 1000045, 1000048, 3000000]
def c6b0 : AC := (.seq
        (.seq
         (.reg [⟨some 17, none, .mov (.t 5)⟩,
          ⟨some 18, none, .mov (.t 1)⟩,
          ⟨some 19, none, .len (.t 18)⟩,
          ⟨some 20, none, .bin .lss (.t 17) (.t 19)⟩])
         (.cond (.t 20)
          .skip
          (.exit 0)))
        (.seq
         (.block 1
          (.seq
           (.reg [⟨some 23, none, .mov (.t 0)⟩,
            ⟨some 24, none, .mov (.t 1)⟩,
            ⟨some 25, none, .mov (.t 1)⟩,
            ⟨some 26, none, .mov (.t 5)⟩,
            ⟨some 27, none, .iaddr (.slice 5) (.t 25) (.t 26)⟩,
            ⟨some 28, none, .faddr 0 (.t 27)⟩,
            ⟨some 29, none, .load 1 false (.t 28)⟩,
            ⟨some 30, none, .call false 16 [(.t 23), (.t 24), (.t 29)]⟩,
            ⟨some 31, none, .mov (.t 0)⟩,
            ⟨some 32, none, .mov (.t 1)⟩,
            ⟨some 33, none, .mov (.t 1)⟩,
            ⟨some 34, none, .mov (.t 5)⟩,
            ⟨some 35, none, .iaddr (.slice 5) (.t 33) (.t 34)⟩,
            ⟨some 36, none, .faddr 2 (.t 35)⟩,
            ⟨some 37, none, .load 1 false (.t 36)⟩,
            ⟨some 38, none, .call false 16 [(.t 31), (.t 32), (.t 37)]⟩,
            ⟨some 39, none, .beq true (.t 30) (.t 38)⟩])
           (.cond (.t 39)
            (.seq
             (.reg [⟨some 4, none, .mov (.c (.bool false))⟩])
             .ret)
            .skip)))
         (.reg [⟨some 21, none, .mov (.t 5)⟩,
          ⟨some 22, none, .bin .add (.t 21) (.c (.int .i64 1))⟩,
          ⟨some 5, none, .mov (.t 22)⟩])))
def c6r0 : AC := (.seq
     (.reg [⟨some 40, none, .mov (.t 0)⟩,
      ⟨some 41, none, .mov (.t 1)⟩,
      ⟨some 42, none, .call false 16 [(.t 40), (.t 41), (.c (.int .i64 0))]⟩,
      ⟨some 43, none, .mov (.t 42)⟩,
      ⟨some 44, some (43, true), .call false 11 []⟩,
      ⟨some 45, none, .pick (.t 43) (.t 44) (.c (.bool false))⟩,
      ⟨some 4, none, .mov (.t 45)⟩])
     .ret)
/-- tracebook/tracebooklaw14.ClockPairs -/
def c6 : AFn := ⟨2, 46, [.t 4],
 (.seq
  (.reg [⟨some 4, none, .mov (.c (.bool false))⟩])
  (.seq
   (.seq
    (.reg [⟨some 6, none, .mov (.t 0)⟩,
     ⟨some 7, none, .mov (.t 1)⟩,
     ⟨some 8, none, .call false 10 [(.t 6), (.t 7)]⟩,
     ⟨some 9, none, .un .not (.t 8)⟩,
     ⟨some 10, none, .mov (.t 9)⟩,
     ⟨some 11, some (10, false), .mov (.t 0)⟩,
     ⟨some 12, some (10, false), .mov (.t 1)⟩,
     ⟨some 13, some (10, false), .call false 13 [(.t 11), (.t 12)]⟩,
     ⟨some 14, some (10, false), .bin .neq (.t 13) (.c (.int .i64 0))⟩,
     ⟨some 15, none, .pick (.t 10) (.c (.bool true)) (.t 14)⟩])
    (.cond (.t 15)
     (.seq
      (.reg [⟨some 16, none, .call false 11 []⟩,
       ⟨some 4, none, .mov (.t 16)⟩])
      .ret)
     .skip))
   (.seq
    (.seq
     (.reg [⟨some 5, none, .mov (.c (.int .i64 0))⟩])
     (.block 0
      (.loop [0, 1, 5]
       c6b0)))
    c6r0))), none⟩
def k6 : List (List Nat) := [[0, 1, 5]]
def o6 : List Nat := [1000028, 1000029, 1000035, 1000037, 1000038, 1000039, 1000041, 1000042, 1000044, 1000045, 1000048, 3000000]
def c7b0 : AC := (.seq
            (.seq
             (.reg [⟨some 42, none, .mov (.t 10)⟩,
              ⟨some 43, none, .bin .lss (.t 42) (.c (.int .i64 8))⟩])
             (.cond (.t 43)
              .skip
              (.exit 2)))
            (.seq
             (.block 3
              (.seq
               (.reg [⟨some 46, none, .mov (.t 0)⟩,
                ⟨some 47, none, .mov (.t 7)⟩,
                ⟨some 48, none, .mov (.t 10)⟩,
                ⟨some 49, none, .call false 16 [(.t 46), (.t 47), (.t 48)]⟩,
                ⟨some 11, none, .mov (.t 49)⟩])
               (.seq
                (.reg [⟨some 50, none, .mov (.t 0)⟩,
                 ⟨some 51, none, .mov (.t 1)⟩,
                 ⟨some 52, none, .mov (.t 10)⟩,
                 ⟨some 53, none, .call false 16 [(.t 50), (.t 51), (.t 52)]⟩,
                 ⟨some 54, none, .mov (.t 53)⟩,
                 ⟨some 55, some (54, true), .mov (.t 11)⟩,
                 ⟨some 56, some (54, true), .un .not (.t 55)⟩,
                 ⟨some 57, none, .pick (.t 54) (.t 56) (.c (.bool false))⟩,
                 ⟨some 58, none, .mov (.t 57)⟩,
                 ⟨some 59, some (58, false), .mov (.t 0)⟩,
                 ⟨some 60, some (58, false), .mov (.t 8)⟩,
                 ⟨some 61, some (58, false), .mov (.t 10)⟩,
                 ⟨some 62, some (58, false), .call false 16 [(.t 59), (.t 60), (.t 61)]⟩,
                 ⟨some 63, some (58, false), .mov (.t 11)⟩,
                 ⟨some 64, some (58, false), .beq true (.t 62) (.t 63)⟩,
                 ⟨some 65, none, .pick (.t 58) (.c (.bool true)) (.t 64)⟩])
                (.cond (.t 65)
                 (.seq
                  (.reg [⟨some 6, none, .mov (.c (.bool false))⟩])
                  .ret)
                 .skip))))
             (.reg [⟨some 44, none, .mov (.t 10)⟩,
              ⟨some 45, none, .bin .add (.t 44) (.c (.int .i64 1))⟩,
              ⟨some 10, none, .mov (.t 45)⟩])))
def c7b1 : AC := (.seq
          (.seq
           (.reg [⟨some 26, none, .mov (.t 9)⟩,
            ⟨some 27, none, .bin .geq (.t 26) (.c (.int .i64 0))⟩])
           (.cond (.t 27)
            .skip
            (.exit 0)))
          (.seq
           (.block 1
            (.reg [⟨some 30, none, .mov (.t 8)⟩,
             ⟨some 31, none, .mov (.t 7)⟩,
             ⟨some 32, none, .mov (.t 9)⟩,
             ⟨some 33, none, .iaddr (.slice 5) (.t 31) (.t 32)⟩,
             ⟨some 34, none, .load 5 true (.t 33)⟩,
             ⟨some 35, none, .bslice false 5 [(.int .i64 0), (.int .i64 0), (.int .i64 0), (.int .i64 0), (.int .i64 0)] 1 [(0, (.t 34))]⟩,
             ⟨some 36, none, .append 5 40 (.t 30) (.t 35)⟩,
             ⟨some 8, none, .mov (.t 36)⟩]))
           (.reg [⟨some 28, none, .mov (.t 9)⟩,
            ⟨some 29, none, .bin .sub (.t 28) (.c (.int .i64 1))⟩,
            ⟨some 9, none, .mov (.t 29)⟩])))
def c7r0 : AC := (.seq
         (.reg [⟨some 66, none, .call false 11 []⟩,
          ⟨some 6, none, .mov (.t 66)⟩])
         .ret)
def c7r1 : AC := (.seq
       (.seq
        (.reg [⟨some 37, none, .mov (.t 0)⟩,
         ⟨some 38, none, .mov (.t 7)⟩,
         ⟨some 39, none, .call false 13 [(.t 37), (.t 38)]⟩,
         ⟨some 40, none, .bin .neq (.t 39) (.c (.int .i64 0))⟩])
        (.cond (.t 40)
         (.seq
          (.reg [⟨some 41, none, .call false 11 []⟩,
           ⟨some 6, none, .mov (.t 41)⟩])
          .ret)
         .skip))
       (.seq
        (.seq
         (.reg [⟨some 10, none, .mov (.c (.int .i64 0))⟩])
         (.block 2
          (.loop [0, 1, 7, 8, 10]
           c7b0)))
        c7r0))
/-- tracebook/tracebooklaw14.ClockGrows -/
def c7 : AFn := ⟨3, 67, [.t 6],
 (.seq
  (.reg [⟨some 5, none, .box (.t 2)⟩,
   ⟨some 6, none, .mov (.c (.bool false))⟩])
  (.seq
   (.seq
    (.reg [⟨some 12, none, .mov (.t 0)⟩,
     ⟨some 13, none, .mov (.t 1)⟩,
     ⟨some 14, none, .call false 10 [(.t 12), (.t 13)]⟩,
     ⟨some 15, none, .un .not (.t 14)⟩])
    (.cond (.t 15)
     (.seq
      (.reg [⟨some 16, none, .call false 11 []⟩,
       ⟨some 6, none, .mov (.t 16)⟩])
      .ret)
     .skip))
   (.seq
    (.regd [3, 4] [⟨some 17, none, .bslice true 5 [(.int .i64 0), (.int .i64 0), (.int .i64 0), (.int .i64 0), (.int .i64 0)] 0 []⟩,
     ⟨some 18, none, .mov (.t 1)⟩,
     ⟨some 19, none, .append 5 40 (.t 17) (.t 18)⟩,
     ⟨some 20, none, .load 5 true (.t 5)⟩,
     ⟨some 21, none, .bslice false 5 [(.int .i64 0), (.int .i64 0), (.int .i64 0), (.int .i64 0), (.int .i64 0)] 1 [(0, (.t 20))]⟩,
     ⟨some 22, none, .append 5 40 (.t 19) (.t 21)⟩,
     ⟨some 7, none, .mov (.t 22)⟩])
    (.seq
     (.reg [⟨some 8, none, .nilv 5⟩])
     (.seq
      (.seq
       (.reg [⟨some 23, none, .mov (.t 7)⟩,
        ⟨some 24, none, .len (.t 23)⟩,
        ⟨some 25, none, .bin .sub (.t 24) (.c (.int .i64 1))⟩,
        ⟨some 9, none, .mov (.t 25)⟩])
       (.block 0
        (.loop [0, 1, 7, 8, 9]
         c7b1)))
      c7r1))))), none⟩
def k7 : List (List Nat) := [[0, 1, 7, 8, 9], [0, 1, 7, 8, 10]]
def o7 : List Nat := [1000028, 1000029, 1000035, 1000037, 1000038, 1000039, 1000041, 1000042, 1000044, 1000045, 1000048, 3000000, 17]
def c8b0 : AC := (.seq
         (.seq
          (.reg [⟨some 14, none, .mov (.t 6)⟩,
           ⟨some 15, none, .mov (.t 5)⟩,
           ⟨some 16, none, .len (.t 15)⟩,
           ⟨some 17, none, .bin .lss (.t 14) (.t 16)⟩])
          (.cond (.t 17)
           .skip
           (.exit 0)))
         (.seq
          (.block 1
           (.seq
            (.reg [⟨some 20, none, .mov (.t 5)⟩,
             ⟨some 21, none, .mov (.t 6)⟩,
             ⟨some 22, none, .bin .sub (.t 21) (.c (.int .i64 1))⟩,
             ⟨some 23, none, .iaddr (.slice 1) (.t 20) (.t 22)⟩,
             ⟨some 24, none, .load 1 false (.t 23)⟩,
             ⟨some 25, none, .mov (.t 5)⟩,
             ⟨some 26, none, .mov (.t 6)⟩,
             ⟨some 27, none, .iaddr (.slice 1) (.t 25) (.t 26)⟩,
             ⟨some 28, none, .load 1 false (.t 27)⟩,
             ⟨some 29, none, .bin .geq (.t 24) (.t 28)⟩])
            (.cond (.t 29)
             (.seq
              (.reg [⟨some 4, none, .mov (.c (.bool false))⟩])
              .ret)
             .skip)))
          (.reg [⟨some 18, none, .mov (.t 6)⟩,
           ⟨some 19, none, .bin .add (.t 18) (.c (.int .i64 1))⟩,
           ⟨some 6, none, .mov (.t 19)⟩])))
def c8r0 : AC := (.seq
      (.reg [⟨some 30, none, .mov (.t 5)⟩,
       ⟨some 31, none, .mov (.t 0)⟩,
       ⟨some 32, none, .mov (.t 1)⟩,
       ⟨some 33, none, .call false 20 [(.t 31), (.t 32)]⟩,
       ⟨some 34, none, .call false 19 [(.t 30), (.t 33)]⟩,
       ⟨some 35, none, .mov (.t 34)⟩,
       ⟨some 36, some (35, true), .call false 11 []⟩,
       ⟨some 37, none, .pick (.t 35) (.t 36) (.c (.bool false))⟩,
       ⟨some 4, none, .mov (.t 37)⟩])
      .ret)
/-- tracebook/tracebooklaw14.ClockPoints -/
def c8 : AFn := ⟨2, 38, [.t 4],
 (.seq
  (.reg [⟨some 4, none, .mov (.c (.bool false))⟩])
  (.seq
   (.seq
    (.reg [⟨some 7, none, .mov (.t 0)⟩,
     ⟨some 8, none, .call false 10 [(.c .nilS), (.t 7)]⟩,
     ⟨some 9, none, .un .not (.t 8)⟩])
    (.cond (.t 9)
     (.seq
      (.reg [⟨some 10, none, .call false 11 []⟩,
       ⟨some 4, none, .mov (.t 10)⟩])
      .ret)
     .skip))
   (.seq
    (.reg [⟨some 11, none, .mov (.t 0)⟩,
     ⟨some 12, none, .mov (.t 1)⟩,
     ⟨some 13, none, .call false 18 [(.t 11), (.t 12)]⟩,
     ⟨some 5, none, .mov (.t 13)⟩])
    (.seq
     (.seq
      (.reg [⟨some 6, none, .mov (.c (.int .i64 1))⟩])
      (.block 0
       (.loop [0, 1, 5, 6]
        c8b0)))
     c8r0)))), none⟩
def k8 : List (List Nat) := [[0, 1, 5, 6]]
def o8 : List Nat := [1000028, 1000029, 1000035, 1000037, 1000038, 1000039, 1000041, 1000042, 1000044, 1000045, 1000048, 3000000]
def c9b0 : AC := (.seq
           (.seq
            (.reg [⟨some 56, none, .mov (.t 11)⟩,
             ⟨some 57, none, .mov (.t 7)⟩,
             ⟨some 58, none, .len (.t 57)⟩,
             ⟨some 59, none, .mov (.t 8)⟩,
             ⟨some 60, none, .len (.t 59)⟩,
             ⟨some 61, none, .bin .add (.t 58) (.t 60)⟩,
             ⟨some 62, none, .bin .lss (.t 56) (.t 61)⟩])
            (.cond (.t 62)
             .skip
             (.exit 2)))
           (.seq
            (.block 3
             (.seq
              (.reg [⟨some 65, none, .mov (.t 11)⟩,
               ⟨some 66, none, .mov (.t 7)⟩,
               ⟨some 67, none, .len (.t 66)⟩,
               ⟨some 68, none, .bin .lss (.t 65) (.t 67)⟩,
               ⟨some 69, none, .mov (.t 68)⟩,
               ⟨some 70, some (69, true), .mov (.t 9)⟩,
               ⟨some 71, some (69, true), .mov (.t 7)⟩,
               ⟨some 72, some (69, true), .mov (.t 11)⟩,
               ⟨some 73, some (69, true), .iaddr (.slice 1) (.t 71) (.t 72)⟩,
               ⟨some 74, some (69, true), .load 1 false (.t 73)⟩,
               ⟨some 75, some (69, true), .call false 21 [(.t 70), (.t 74)]⟩,
               ⟨some 76, some (69, true), .un .not (.t 75)⟩,
               ⟨some 77, none, .pick (.t 69) (.t 76) (.c (.bool false))⟩,
               ⟨some 78, none, .mov (.t 77)⟩,
               ⟨some 79, some (78, false), .mov (.t 11)⟩,
               ⟨some 80, some (78, false), .mov (.t 7)⟩,
               ⟨some 81, some (78, false), .len (.t 80)⟩,
               ⟨some 82, some (78, false), .bin .geq (.t 79) (.t 81)⟩,
               ⟨some 83, some (78, false), .mov (.t 82)⟩,
               ⟨some 84, some (83, true), .mov (.t 9)⟩,
               ⟨some 85, some (83, true), .mov (.t 8)⟩,
               ⟨some 86, some (83, true), .mov (.t 11)⟩,
               ⟨some 87, some (83, true), .mov (.t 7)⟩,
               ⟨some 88, some (83, true), .len (.t 87)⟩,
               ⟨some 89, some (83, true), .bin .sub (.t 86) (.t 88)⟩,
               ⟨some 90, some (83, true), .iaddr (.slice 1) (.t 85) (.t 89)⟩,
               ⟨some 91, some (83, true), .load 1 false (.t 90)⟩,
               ⟨some 92, some (83, true), .call false 21 [(.t 84), (.t 91)]⟩,
               ⟨some 93, some (83, true), .un .not (.t 92)⟩,
               ⟨some 94, some (78, false), .pick (.t 83) (.t 93) (.c (.bool false))⟩,
               ⟨some 95, none, .pick (.t 78) (.c (.bool true)) (.t 94)⟩])
              (.cond (.t 95)
               (.seq
                (.reg [⟨some 6, none, .mov (.c (.bool false))⟩])
                .ret)
               .skip)))
            (.reg [⟨some 63, none, .mov (.t 11)⟩,
             ⟨some 64, none, .bin .add (.t 63) (.c (.int .i64 1))⟩,
             ⟨some 11, none, .mov (.t 64)⟩])))
def c9b1 : AC := (.seq
          (.seq
           (.reg [⟨some 34, none, .mov (.t 10)⟩,
            ⟨some 35, none, .mov (.t 9)⟩,
            ⟨some 36, none, .len (.t 35)⟩,
            ⟨some 37, none, .bin .lss (.t 34) (.t 36)⟩])
           (.cond (.t 37)
            .skip
            (.exit 0)))
          (.seq
           (.block 1
            (.seq
             (.reg [⟨some 40, none, .mov (.t 7)⟩,
              ⟨some 41, none, .mov (.t 9)⟩,
              ⟨some 42, none, .mov (.t 10)⟩,
              ⟨some 43, none, .iaddr (.slice 1) (.t 41) (.t 42)⟩,
              ⟨some 44, none, .load 1 false (.t 43)⟩,
              ⟨some 45, none, .call false 21 [(.t 40), (.t 44)]⟩,
              ⟨some 46, none, .un .not (.t 45)⟩,
              ⟨some 47, none, .mov (.t 46)⟩,
              ⟨some 48, some (47, true), .mov (.t 8)⟩,
              ⟨some 49, some (47, true), .mov (.t 9)⟩,
              ⟨some 50, some (47, true), .mov (.t 10)⟩,
              ⟨some 51, some (47, true), .iaddr (.slice 1) (.t 49) (.t 50)⟩,
              ⟨some 52, some (47, true), .load 1 false (.t 51)⟩,
              ⟨some 53, some (47, true), .call false 21 [(.t 48), (.t 52)]⟩,
              ⟨some 54, some (47, true), .un .not (.t 53)⟩,
              ⟨some 55, none, .pick (.t 47) (.t 54) (.c (.bool false))⟩])
             (.cond (.t 55)
              (.seq
               (.reg [⟨some 6, none, .mov (.c (.bool false))⟩])
               .ret)
              .skip)))
           (.reg [⟨some 38, none, .mov (.t 10)⟩,
            ⟨some 39, none, .bin .add (.t 38) (.c (.int .i64 1))⟩,
            ⟨some 10, none, .mov (.t 39)⟩])))
def c9r0 : AC := (.seq
        (.reg [⟨some 96, none, .call false 11 []⟩,
         ⟨some 6, none, .mov (.t 96)⟩])
        .ret)
def c9r1 : AC := (.seq
       (.seq
        (.reg [⟨some 11, none, .mov (.c (.int .i64 0))⟩])
        (.block 2
         (.loop [7, 8, 9, 11]
          c9b0)))
       c9r0)
/-- tracebook/tracebooklaw14.ClockUnites -/
def c9 : AFn := ⟨3, 97, [.t 6],
 (.seq
  (.reg [⟨some 6, none, .mov (.c (.bool false))⟩])
  (.seq
   (.seq
    (.reg [⟨some 12, none, .mov (.t 0)⟩,
     ⟨some 13, none, .call false 10 [(.c .nilS), (.t 12)]⟩,
     ⟨some 14, none, .un .not (.t 13)⟩,
     ⟨some 15, none, .mov (.t 14)⟩,
     ⟨some 16, some (15, false), .mov (.t 1)⟩,
     ⟨some 17, some (15, false), .call false 10 [(.c .nilS), (.t 16)]⟩,
     ⟨some 18, some (15, false), .un .not (.t 17)⟩,
     ⟨some 19, none, .pick (.t 15) (.c (.bool true)) (.t 18)⟩])
    (.cond (.t 19)
     (.seq
      (.reg [⟨some 20, none, .call false 11 []⟩,
       ⟨some 6, none, .mov (.t 20)⟩])
      .ret)
     .skip))
   (.seq
    (.reg [⟨some 21, none, .mov (.t 0)⟩,
     ⟨some 22, none, .mov (.t 2)⟩,
     ⟨some 23, none, .call false 18 [(.t 21), (.t 22)]⟩,
     ⟨some 24, none, .mov (.t 1)⟩,
     ⟨some 25, none, .mov (.t 2)⟩,
     ⟨some 26, none, .call false 18 [(.t 24), (.t 25)]⟩,
     ⟨some 7, none, .mov (.t 23)⟩,
     ⟨some 8, none, .mov (.t 26)⟩])
    (.seq
     (.reg [⟨some 27, none, .bslice true 5 [(.int .i64 0), (.int .i64 0), (.int .i64 0), (.int .i64 0), (.int .i64 0)] 0 []⟩,
      ⟨some 28, none, .mov (.t 0)⟩,
      ⟨some 29, none, .append 5 40 (.t 27) (.t 28)⟩,
      ⟨some 30, none, .mov (.t 1)⟩,
      ⟨some 31, none, .append 5 40 (.t 29) (.t 30)⟩,
      ⟨some 32, none, .mov (.t 2)⟩,
      ⟨some 33, none, .call false 18 [(.t 31), (.t 32)]⟩,
      ⟨some 9, none, .mov (.t 33)⟩])
     (.seq
      (.seq
       (.reg [⟨some 10, none, .mov (.c (.int .i64 0))⟩])
       (.block 0
        (.loop [7, 8, 9, 10]
         c9b1)))
      c9r1))))), none⟩
def k9 : List (List Nat) := [[7, 8, 9, 10], [7, 8, 9, 11]]
def o9 : List Nat := [1000028, 1000029, 1000035, 1000037, 1000038, 1000039, 1000041, 1000042, 1000044, 1000045, 1000048, 3000000, 27]
/-- tracebook/tracebooklaw14.few -/
def c10 : AFn := ⟨2, 13, [.t 4],
 (.seq
  (.reg [⟨some 4, none, .mov (.c (.bool false))⟩])
  (.seq
   (.reg [⟨some 5, none, .mov (.t 0)⟩,
    ⟨some 6, none, .len (.t 5)⟩,
    ⟨some 7, none, .bin .leq (.t 6) (.c (.int .i64 20))⟩,
    ⟨some 8, none, .mov (.t 7)⟩,
    ⟨some 9, some (8, true), .mov (.t 1)⟩,
    ⟨some 10, some (8, true), .len (.t 9)⟩,
    ⟨some 11, some (8, true), .bin .leq (.t 10) (.c (.int .i64 250))⟩,
    ⟨some 12, none, .pick (.t 8) (.t 11) (.c (.bool false))⟩,
    ⟨some 4, none, .mov (.t 12)⟩])
   .ret)), none⟩
def k10 : List (List Nat) := []
def o10 : List Nat := [1000028, 1000029, 1000035, 1000037, 1000038, 1000039, 1000041, 1000042, 1000044, 1000045, 1000048, 3000000]
/-- tracebook/tracebooklaw14.lives -/
def c11 : AFn := ⟨0, 64, [.t 0],
 (.seq
  (.reg [⟨some 0, none, .mov (.c (.bool false))⟩])
  (.seq
   (.reg [⟨some 7, none, .build [(.int .i64 0), (.int .i64 0)] [(0, 1, (.c (.int .i64 0))), (1, 1, (.c (.int .i64 0)))]⟩,
    ⟨some 8, none, .build [(.int .i64 0), (.int .i64 0)] [(0, 1, (.c (.int .i64 1))), (1, 1, (.c (.int .i64 100)))]⟩,
    ⟨some 9, none, .bslice false 2 [(.int .i64 0), (.int .i64 0)] 2 [(0, (.t 7)), (1, (.t 8))]⟩,
    ⟨some 1, none, .mov (.t 9)⟩])
   (.seq
    (.reg [⟨some 10, none, .build [(.int .i64 0), (.int .i64 0)] [(0, 1, (.c (.int .i64 5000))), (1, 1, (.c (.int .i64 5010)))]⟩,
     ⟨some 11, none, .build [(.int .i64 0), (.int .i64 0), (.int .i64 0), (.int .i64 0), (.int .i64 0)] [(0, 1, (.c (.int .i64 1))), (1, 1, (.c (.int .i64 1000))), (2, 1, (.c (.int .i64 0))), (3, 2, (.t 10))]⟩,
     ⟨some 12, none, .bslice false 5 [(.int .i64 0), (.int .i64 0), (.int .i64 0), (.int .i64 0), (.int .i64 0)] 1 [(0, (.t 11))]⟩,
     ⟨some 2, none, .mov (.t 12)⟩])
    (.seq
     (.reg [⟨some 14, none, .mov (.t 1)⟩,
      ⟨some 15, none, .call false 14 [(.t 14), (.c (.int .i64 1))]⟩,
      ⟨some 13, none, .mov (.t 15)⟩,
      ⟨some 16, none, .ext (.t 13) 0⟩,
      ⟨some 17, none, .ext (.t 13) 1⟩,
      ⟨some 3, none, .mov (.t 16)⟩,
      ⟨some 4, none, .mov (.t 17)⟩])
     (.seq
      (.reg [⟨some 19, none, .mov (.t 1)⟩,
       ⟨some 20, none, .call false 14 [(.t 19), (.c (.int .i64 2))]⟩,
       ⟨some 18, none, .mov (.t 20)⟩,
       ⟨some 21, none, .ext (.t 18) 0⟩,
       ⟨some 22, none, .ext (.t 18) 1⟩,
       ⟨some 5, none, .mov (.t 21)⟩,
       ⟨some 6, none, .mov (.t 22)⟩])
      (.seq
       (.reg [⟨some 23, none, .mov (.t 1)⟩,
        ⟨some 24, none, .mov (.t 2)⟩,
        ⟨some 25, none, .call false 12 [(.t 23), (.t 24)]⟩,
        ⟨some 26, none, .bin .eql (.t 25) (.c (.int .i64 0))⟩,
        ⟨some 27, none, .mov (.t 26)⟩,
        ⟨some 28, some (27, true), .mov (.t 3)⟩,
        ⟨some 29, some (27, true), .bin .eql (.t 28) (.c (.int .i64 100))⟩,
        ⟨some 30, none, .pick (.t 27) (.t 29) (.c (.bool false))⟩,
        ⟨some 31, none, .mov (.t 30)⟩,
        ⟨some 32, some (31, true), .mov (.t 4)⟩,
        ⟨some 33, none, .pick (.t 31) (.t 32) (.c (.bool false))⟩,
        ⟨some 34, none, .mov (.t 33)⟩,
        ⟨some 35, some (34, true), .mov (.t 6)⟩,
        ⟨some 36, some (34, true), .un .not (.t 35)⟩,
        ⟨some 37, none, .pick (.t 34) (.t 36) (.c (.bool false))⟩,
        ⟨some 38, none, .mov (.t 37)⟩,
        ⟨some 39, some (38, true), .mov (.t 1)⟩,
        ⟨some 40, some (38, true), .mov (.t 2)⟩,
        ⟨some 41, some (38, true), .call false 16 [(.t 39), (.t 40), (.c (.int .i64 1))]⟩,
        ⟨some 42, none, .pick (.t 38) (.t 41) (.c (.bool false))⟩,
        ⟨some 43, none, .mov (.t 42)⟩,
        ⟨some 44, some (43, true), .mov (.t 1)⟩,
        ⟨some 45, some (43, true), .call false 16 [(.t 44), (.c .nilS), (.c (.int .i64 1))]⟩,
        ⟨some 46, some (43, true), .un .not (.t 45)⟩,
        ⟨some 47, none, .pick (.t 43) (.t 46) (.c (.bool false))⟩,
        ⟨some 48, none, .mov (.t 47)⟩,
        ⟨some 49, some (48, true), .mov (.t 2)⟩,
        ⟨some 50, some (48, true), .call false 18 [(.t 49), (.c (.int .i64 0))]⟩,
        ⟨some 51, some (48, true), .bslice false 1 [(.int .i64 0)] 2 [(0, (.c (.int .i64 5000))), (1, (.c (.int .i64 5010)))]⟩,
        ⟨some 52, some (48, true), .call false 19 [(.t 50), (.t 51)]⟩,
        ⟨some 53, none, .pick (.t 48) (.t 52) (.c (.bool false))⟩,
        ⟨some 54, none, .mov (.t 53)⟩,
        ⟨some 55, some (54, true), .mov (.t 2)⟩,
        ⟨some 56, some (54, true), .call false 18 [(.t 55), (.c (.int .i64 1))]⟩,
        ⟨some 57, some (54, true), .bslice false 1 [(.int .i64 0)] 1 [(0, (.c (.int .i64 1000)))]⟩,
        ⟨some 58, some (54, true), .call false 19 [(.t 56), (.t 57)]⟩,
        ⟨some 59, none, .pick (.t 54) (.t 58) (.c (.bool false))⟩,
        ⟨some 60, none, .mov (.t 59)⟩,
        ⟨some 61, some (60, true), .call false 12 [(.c .nilS), (.c .nilS)]⟩,
        ⟨some 62, some (60, true), .bin .eql (.t 61) (.c (.int .i64 8))⟩,
        ⟨some 63, none, .pick (.t 60) (.t 62) (.c (.bool false))⟩,
        ⟨some 0, none, .mov (.t 63)⟩])
       .ret)))))), none⟩
def k11 : List (List Nat) := []
def o11 : List Nat := [1000028, 1000029, 1000035, 1000037, 1000038, 1000039, 1000041, 1000042, 1000044, 1000045, 1000048, 3000000]
def c12b0 : AC := (.seq
           (.reg [⟨some 62, none, .bin .lss (.t 61) (.t 60)⟩])
           (.seq
            (.cond (.t 62)
             .skip
             (.exit 2))
            (.seq
             (.block 3
              (.seq
               (.reg [⟨some 63, none, .iaddr (.slice 5) (.t 59) (.t 61)⟩,
                ⟨some 64, none, .load 5 true (.t 63)⟩,
                ⟨some 8, none, .alloc [(.int .i64 0), (.int .i64 0), (.int .i64 0), (.int .i64 0), (.int .i64 0)]⟩,
                ⟨none, none, .store 5 (.t 8) (.t 64)⟩])
               (.seq
                (.reg [⟨some 65, none, .mov (.t 0)⟩,
                 ⟨some 66, none, .load 5 true (.t 8)⟩,
                 ⟨some 67, none, .call false 23 [(.t 65), (.t 66)]⟩,
                 ⟨some 9, none, .mov (.t 67)⟩])
                (.seq
                 (.reg [⟨some 68, none, .mov (.t 9)⟩,
                  ⟨some 69, none, .bin .neq (.t 68) (.c (.int .i64 0))⟩])
                 (.cond (.t 69)
                  (.seq
                   (.reg [⟨some 70, none, .mov (.t 9)⟩,
                    ⟨some 4, none, .mov (.t 70)⟩])
                   .ret)
                  .skip)))))
             (.reg [⟨some 71, none, .bin .add (.t 61) (.c (.int .i64 1))⟩,
              ⟨some 61, none, .mov (.t 71)⟩]))))
def c12b1 : AC := (.seq
          (.reg [⟨some 29, none, .bin .lss (.t 28) (.t 27)⟩])
          (.seq
           (.cond (.t 29)
            .skip
            (.exit 0))
           (.seq
            (.block 1
             (.seq
              (.reg [⟨some 30, none, .mov (.t 28)⟩,
               ⟨some 31, none, .iaddr (.slice 2) (.t 26) (.t 28)⟩,
               ⟨some 32, none, .load 2 true (.t 31)⟩,
               ⟨some 6, none, .alloc [(.int .i64 0), (.int .i64 0)]⟩,
               ⟨some 5, none, .mov (.t 30)⟩,
               ⟨none, none, .store 2 (.t 6) (.t 32)⟩])
              (.seq
               (.seq
                (.reg [⟨some 33, none, .faddr 0 (.t 6)⟩,
                 ⟨some 34, none, .load 1 false (.t 33)⟩,
                 ⟨some 35, none, .bin .lss (.t 34) (.c (.int .i64 0))⟩,
                 ⟨some 36, none, .mov (.t 35)⟩,
                 ⟨some 37, some (36, false), .faddr 0 (.t 6)⟩,
                 ⟨some 38, some (36, false), .load 1 false (.t 37)⟩,
                 ⟨some 39, some (36, false), .bin .geq (.t 38) (.c (.int .i64 8))⟩,
                 ⟨some 40, none, .pick (.t 36) (.c (.bool true)) (.t 39)⟩,
                 ⟨some 41, none, .mov (.t 40)⟩,
                 ⟨some 42, some (41, false), .faddr 1 (.t 6)⟩,
                 ⟨some 43, some (41, false), .load 1 false (.t 42)⟩,
                 ⟨some 44, some (41, false), .bin .lss (.t 43) (.c (.int .i64 0))⟩,
                 ⟨some 45, none, .pick (.t 41) (.c (.bool true)) (.t 44)⟩,
                 ⟨some 46, none, .mov (.t 45)⟩,
                 ⟨some 47, some (46, false), .faddr 1 (.t 6)⟩,
                 ⟨some 48, some (46, false), .load 1 false (.t 47)⟩,
                 ⟨some 49, some (46, false), .bin .gtr (.t 48) (.c (.int .i64 10000))⟩,
                 ⟨some 50, none, .pick (.t 46) (.c (.bool true)) (.t 49)⟩])
                (.cond (.t 50)
                 (.seq
                  (.reg [⟨some 4, none, .mov (.c (.int .i64 2))⟩])
                  .ret)
                 .skip))
               (.seq
                (.reg [⟨some 51, none, .mov (.t 0)⟩,
                 ⟨some 52, none, .mov (.t 5)⟩,
                 ⟨some 53, none, .slc (.slice 2) (.t 51) none (some (.t 52)) none⟩,
                 ⟨some 54, none, .faddr 0 (.t 6)⟩,
                 ⟨some 55, none, .load 1 false (.t 54)⟩,
                 ⟨some 56, none, .call false 22 [(.t 53), (.t 55)]⟩,
                 ⟨some 57, none, .bin .geq (.t 56) (.c (.int .i64 0))⟩])
                (.cond (.t 57)
                 (.seq
                  (.reg [⟨some 4, none, .mov (.c (.int .i64 4))⟩])
                  .ret)
                 .skip)))))
            (.reg [⟨some 58, none, .bin .add (.t 28) (.c (.int .i64 1))⟩,
             ⟨some 28, none, .mov (.t 58)⟩]))))
def c12r0 : AC := (.seq
       (.seq
        (.reg [⟨some 59, none, .mov (.t 1)⟩,
         ⟨some 60, none, .len (.t 59)⟩,
         ⟨some 61, none, .mov (.c (.int .i64 0))⟩])
        (.block 2
         (.loop [0, 59, 60, 61]
          c12b0)))
       (.seq
        (.reg [⟨some 4, none, .mov (.c (.int .i64 0))⟩])
        .ret))
/-- tracebook/clock.Check -/
def c12 : AFn := ⟨2, 72, [.t 4],
 (.seq
  (.reg [⟨some 4, none, .mov (.c (.int .i64 0))⟩])
  (.seq
   (.seq
    (.reg [⟨some 10, none, .mov (.t 0)⟩,
     ⟨some 11, none, .len (.t 10)⟩,
     ⟨some 12, none, .bin .eql (.t 11) (.c (.int .i64 0))⟩])
    (.cond (.t 12)
     (.seq
      (.reg [⟨some 4, none, .mov (.c (.int .i64 8))⟩])
      .ret)
     .skip))
   (.seq
    (.seq
     (.reg [⟨some 13, none, .mov (.t 0)⟩,
      ⟨some 14, none, .len (.t 13)⟩,
      ⟨some 15, none, .bin .gtr (.t 14) (.c (.int .i64 8))⟩,
      ⟨some 16, none, .mov (.t 15)⟩,
      ⟨some 17, some (16, false), .mov (.t 1)⟩,
      ⟨some 18, some (16, false), .len (.t 17)⟩,
      ⟨some 19, some (16, false), .bin .gtr (.t 18) (.c (.int .i64 200))⟩,
      ⟨some 20, none, .pick (.t 16) (.c (.bool true)) (.t 19)⟩])
     (.cond (.t 20)
      (.seq
       (.reg [⟨some 4, none, .mov (.c (.int .i64 7))⟩])
       .ret)
      .skip))
    (.seq
     (.seq
      (.reg [⟨some 21, none, .mov (.t 0)⟩,
       ⟨some 22, none, .iaddr (.slice 2) (.t 21) (.c (.int .i64 0))⟩,
       ⟨some 23, none, .load 2 true (.t 22)⟩,
       ⟨some 24, none, .build [(.int .i64 0), (.int .i64 0)] [(0, 1, (.c (.int .i64 0)))]⟩,
       ⟨some 25, none, .beqA true [.i, .i] (.t 23) (.t 24)⟩])
      (.cond (.t 25)
       (.seq
        (.reg [⟨some 4, none, .mov (.c (.int .i64 10))⟩])
        .ret)
       .skip))
     (.seq
      (.seq
       (.reg [⟨some 26, none, .mov (.t 0)⟩,
        ⟨some 27, none, .len (.t 26)⟩,
        ⟨some 28, none, .mov (.c (.int .i64 0))⟩])
       (.block 0
        (.loop [0, 1, 26, 27, 28]
         c12b1)))
      c12r0))))), none⟩
def k12 : List (List Nat) := [[0, 1, 26, 27, 28], [0, 59, 60, 61]]
def o12 : List Nat := [1000028, 1000029, 1000035, 1000037, 1000038, 1000039, 1000041, 1000042, 1000044, 1000045, 1000048, 3000000]
def c13b0 : AC := (.seq
         (.seq
          (.reg [⟨some 79, none, .mov (.t 6)⟩,
           ⟨some 80, none, .mov (.t 1)⟩,
           ⟨some 81, none, .len (.t 80)⟩,
           ⟨some 82, none, .bin .lss (.t 79) (.t 81)⟩])
          (.cond (.t 82)
           .skip
           (.exit 3)))
         (.seq
          (.block 4
           (.seq
            (.reg [⟨some 85, none, .mov (.t 0)⟩,
             ⟨some 86, none, .mov (.t 1)⟩,
             ⟨some 87, none, .mov (.t 6)⟩,
             ⟨some 88, none, .iaddr (.slice 5) (.t 86) (.t 87)⟩,
             ⟨some 89, none, .load 5 true (.t 88)⟩,
             ⟨some 90, none, .call false 25 [(.t 85), (.t 89)]⟩,
             ⟨some 7, none, .mov (.t 90)⟩])
            (.seq
             (.reg [⟨some 91, none, .mov (.t 7)⟩,
              ⟨some 92, none, .bin .neq (.t 91) (.c (.int .i64 0))⟩])
             (.cond (.t 92)
              (.seq
               (.reg [⟨some 93, none, .mov (.t 7)⟩,
                ⟨some 4, none, .mov (.t 93)⟩])
               .ret)
              .skip))))
          (.reg [⟨some 83, none, .mov (.t 6)⟩,
           ⟨some 84, none, .bin .add (.t 83) (.c (.int .i64 1))⟩,
           ⟨some 6, none, .mov (.t 84)⟩])))
def c13b1 : AC := (.seq
        (.seq
         (.reg [⟨some 34, none, .mov (.t 5)⟩,
          ⟨some 35, none, .mov (.t 0)⟩,
          ⟨some 36, none, .len (.t 35)⟩,
          ⟨some 37, none, .bin .lss (.t 34) (.t 36)⟩])
         (.cond (.t 37)
          .skip
          (.exit 1)))
        (.seq
         (.block 2
          (.seq
           (.seq
            (.reg [⟨some 40, none, .mov (.t 0)⟩,
             ⟨some 41, none, .mov (.t 5)⟩,
             ⟨some 42, none, .iaddr (.slice 2) (.t 40) (.t 41)⟩,
             ⟨some 43, none, .faddr 0 (.t 42)⟩,
             ⟨some 44, none, .load 1 false (.t 43)⟩,
             ⟨some 45, none, .bin .lss (.t 44) (.c (.int .i64 0))⟩,
             ⟨some 46, none, .mov (.t 45)⟩,
             ⟨some 47, some (46, false), .mov (.t 0)⟩,
             ⟨some 48, some (46, false), .mov (.t 5)⟩,
             ⟨some 49, some (46, false), .iaddr (.slice 2) (.t 47) (.t 48)⟩,
             ⟨some 50, some (46, false), .faddr 0 (.t 49)⟩,
             ⟨some 51, some (46, false), .load 1 false (.t 50)⟩,
             ⟨some 52, some (46, false), .bin .geq (.t 51) (.c (.int .i64 8))⟩,
             ⟨some 53, none, .pick (.t 46) (.c (.bool true)) (.t 52)⟩,
             ⟨some 54, none, .mov (.t 53)⟩,
             ⟨some 55, some (54, false), .mov (.t 0)⟩,
             ⟨some 56, some (54, false), .mov (.t 5)⟩,
             ⟨some 57, some (54, false), .iaddr (.slice 2) (.t 55) (.t 56)⟩,
             ⟨some 58, some (54, false), .faddr 1 (.t 57)⟩,
             ⟨some 59, some (54, false), .load 1 false (.t 58)⟩,
             ⟨some 60, some (54, false), .bin .lss (.t 59) (.c (.int .i64 0))⟩,
             ⟨some 61, none, .pick (.t 54) (.c (.bool true)) (.t 60)⟩,
             ⟨some 62, none, .mov (.t 61)⟩,
             ⟨some 63, some (62, false), .mov (.t 0)⟩,
             ⟨some 64, some (62, false), .mov (.t 5)⟩,
             ⟨some 65, some (62, false), .iaddr (.slice 2) (.t 63) (.t 64)⟩,
             ⟨some 66, some (62, false), .faddr 1 (.t 65)⟩,
             ⟨some 67, some (62, false), .load 1 false (.t 66)⟩,
             ⟨some 68, some (62, false), .bin .gtr (.t 67) (.c (.int .i64 10000))⟩,
             ⟨some 69, none, .pick (.t 62) (.c (.bool true)) (.t 68)⟩])
            (.cond (.t 69)
             (.seq
              (.reg [⟨some 4, none, .mov (.c (.int .i64 2))⟩])
              .ret)
             .skip))
           (.seq
            (.reg [⟨some 70, none, .mov (.t 0)⟩,
             ⟨some 71, none, .mov (.t 0)⟩,
             ⟨some 72, none, .mov (.t 5)⟩,
             ⟨some 73, none, .iaddr (.slice 2) (.t 71) (.t 72)⟩,
             ⟨some 74, none, .faddr 0 (.t 73)⟩,
             ⟨some 75, none, .load 1 false (.t 74)⟩,
             ⟨some 76, none, .call false 24 [(.t 70), (.t 75)]⟩,
             ⟨some 77, none, .mov (.t 5)⟩,
             ⟨some 78, none, .bin .lss (.t 76) (.t 77)⟩])
            (.cond (.t 78)
             (.seq
              (.reg [⟨some 4, none, .mov (.c (.int .i64 4))⟩])
              .ret)
             .skip))))
         (.reg [⟨some 38, none, .mov (.t 5)⟩,
          ⟨some 39, none, .bin .add (.t 38) (.c (.int .i64 1))⟩,
          ⟨some 5, none, .mov (.t 39)⟩])))
def c13r0 : AC := (.seq
     (.seq
      (.reg [⟨some 6, none, .mov (.c (.int .i64 0))⟩])
      (.block 3
       (.loop [0, 1, 6]
        c13b0)))
     (.seq
      (.reg [⟨some 4, none, .mov (.c (.int .i64 0))⟩])
      .ret))
/-- tracebook/tracebookref14.Check -/
def c13 : AFn := ⟨2, 94, [.t 4],
 (.seq
  (.reg [⟨some 4, none, .mov (.c (.int .i64 0))⟩])
  (.seq
   (.block 0
    (.seq
     (.reg [⟨some 9, none, .mov (.t 0)⟩,
      ⟨some 10, none, .len (.t 9)⟩,
      ⟨some 11, none, .bin .eql (.t 10) (.c (.int .i64 0))⟩,
      ⟨some 8, none, .mov (.t 11)⟩])
     (.cond (.t 8)
      (.seq
       (.reg [⟨some 4, none, .mov (.c (.int .i64 8))⟩])
       .ret)
      (.seq
       (.reg [⟨some 13, none, .mov (.t 0)⟩,
        ⟨some 14, none, .len (.t 13)⟩,
        ⟨some 15, none, .bin .gtr (.t 14) (.c (.int .i64 8))⟩,
        ⟨some 16, none, .mov (.t 15)⟩,
        ⟨some 17, some (16, false), .mov (.t 1)⟩,
        ⟨some 18, some (16, false), .len (.t 17)⟩,
        ⟨some 19, some (16, false), .bin .gtr (.t 18) (.c (.int .i64 200))⟩,
        ⟨some 20, none, .pick (.t 16) (.c (.bool true)) (.t 19)⟩,
        ⟨some 12, none, .mov (.t 20)⟩])
       (.cond (.t 12)
        (.seq
         (.reg [⟨some 4, none, .mov (.c (.int .i64 7))⟩])
         .ret)
        (.seq
         (.reg [⟨some 22, none, .mov (.t 0)⟩,
          ⟨some 23, none, .iaddr (.slice 2) (.t 22) (.c (.int .i64 0))⟩,
          ⟨some 24, none, .faddr 0 (.t 23)⟩,
          ⟨some 25, none, .load 1 false (.t 24)⟩,
          ⟨some 26, none, .bin .neq (.t 25) (.c (.int .i64 0))⟩,
          ⟨some 27, none, .mov (.t 26)⟩,
          ⟨some 28, some (27, false), .mov (.t 0)⟩,
          ⟨some 29, some (27, false), .iaddr (.slice 2) (.t 28) (.c (.int .i64 0))⟩,
          ⟨some 30, some (27, false), .faddr 1 (.t 29)⟩,
          ⟨some 31, some (27, false), .load 1 false (.t 30)⟩,
          ⟨some 32, some (27, false), .bin .neq (.t 31) (.c (.int .i64 0))⟩,
          ⟨some 33, none, .pick (.t 27) (.c (.bool true)) (.t 32)⟩,
          ⟨some 21, none, .mov (.t 33)⟩])
         (.cond (.t 21)
          (.seq
           (.reg [⟨some 4, none, .mov (.c (.int .i64 10))⟩])
           .ret)
          .skip)))))))
   (.seq
    (.seq
     (.reg [⟨some 5, none, .mov (.c (.int .i64 0))⟩])
     (.block 1
      (.loop [0, 1, 5]
       c13b1)))
    c13r0))), none⟩
def k13 : List (List Nat) := [[0, 1, 5], [0, 1, 6]]
def o13 : List Nat := [1000028, 1000029, 1000035, 1000037, 1000038, 1000039, 1000041, 1000042, 1000044, 1000045, 1000048, 3000000]
/-- tracebook/clock.Ppm -/
def c14 : AFn := ⟨2, 22, [.t 4, .t 5],
 (.seq
  (.reg [⟨some 4, none, .mov (.c (.int .i64 0))⟩,
   ⟨some 5, none, .mov (.c (.bool false))⟩])
  (.seq
   (.reg [⟨some 7, none, .mov (.t 0)⟩,
    ⟨some 8, none, .mov (.t 1)⟩,
    ⟨some 9, none, .call false 22 [(.t 7), (.t 8)]⟩,
    ⟨some 6, none, .mov (.t 9)⟩])
   (.seq
    (.seq
     (.reg [⟨some 10, none, .mov (.t 0)⟩,
      ⟨some 11, none, .call false 12 [(.t 10), (.c .nilS)]⟩,
      ⟨some 12, none, .bin .neq (.t 11) (.c (.int .i64 0))⟩,
      ⟨some 13, none, .mov (.t 12)⟩,
      ⟨some 14, some (13, false), .mov (.t 6)⟩,
      ⟨some 15, some (13, false), .bin .lss (.t 14) (.c (.int .i64 0))⟩,
      ⟨some 16, none, .pick (.t 13) (.c (.bool true)) (.t 15)⟩])
     (.cond (.t 16)
      (.seq
       (.reg [⟨some 4, none, .mov (.c (.int .i64 0))⟩,
        ⟨some 5, none, .mov (.c (.bool false))⟩])
       .ret)
      .skip))
    (.seq
     (.reg [⟨some 17, none, .mov (.t 0)⟩,
      ⟨some 18, none, .mov (.t 6)⟩,
      ⟨some 19, none, .iaddr (.slice 2) (.t 17) (.t 18)⟩,
      ⟨some 20, none, .faddr 1 (.t 19)⟩,
      ⟨some 21, none, .load 1 false (.t 20)⟩,
      ⟨some 4, none, .mov (.t 21)⟩,
      ⟨some 5, none, .mov (.c (.bool true))⟩])
     .ret)))), none⟩
def k14 : List (List Nat) := []
def o14 : List Nat := [1000028, 1000029, 1000035, 1000037, 1000038, 1000039, 1000041, 1000042, 1000044, 1000045, 1000048, 3000000]
/-- tracebook/tracebookref14.Ppm -/
def c15 : AFn := ⟨2, 22, [.t 4, .t 5],
 (.seq
  (.reg [⟨some 4, none, .mov (.c (.int .i64 0))⟩,
   ⟨some 5, none, .mov (.c (.bool false))⟩])
  (.seq
   (.reg [⟨some 7, none, .mov (.t 0)⟩,
    ⟨some 8, none, .mov (.t 1)⟩,
    ⟨some 9, none, .call false 24 [(.t 7), (.t 8)]⟩,
    ⟨some 6, none, .mov (.t 9)⟩])
   (.seq
    (.seq
     (.reg [⟨some 10, none, .mov (.t 0)⟩,
      ⟨some 11, none, .call false 13 [(.t 10), (.c .nilS)]⟩,
      ⟨some 12, none, .bin .neq (.t 11) (.c (.int .i64 0))⟩,
      ⟨some 13, none, .mov (.t 12)⟩,
      ⟨some 14, some (13, false), .mov (.t 6)⟩,
      ⟨some 15, some (13, false), .bin .lss (.t 14) (.c (.int .i64 0))⟩,
      ⟨some 16, none, .pick (.t 13) (.c (.bool true)) (.t 15)⟩])
     (.cond (.t 16)
      (.seq
       (.reg [⟨some 4, none, .mov (.c (.int .i64 0))⟩,
        ⟨some 5, none, .mov (.c (.bool false))⟩])
       .ret)
      .skip))
    (.seq
     (.reg [⟨some 17, none, .mov (.t 0)⟩,
      ⟨some 18, none, .mov (.t 6)⟩,
      ⟨some 19, none, .iaddr (.slice 2) (.t 17) (.t 18)⟩,
      ⟨some 20, none, .faddr 1 (.t 19)⟩,
      ⟨some 21, none, .load 1 false (.t 20)⟩,
      ⟨some 4, none, .mov (.t 21)⟩,
      ⟨some 5, none, .mov (.c (.bool true))⟩])
     .ret)))), none⟩
def k15 : List (List Nat) := []
def o15 : List Nat := [1000028, 1000029, 1000035, 1000037, 1000038, 1000039, 1000041, 1000042, 1000044, 1000045, 1000048, 3000000]
def c16b0 : AC := (.seq
                (.reg [⟨some 30, none, .bin .lss (.t 29) (.t 28)⟩])
                (.seq
                 (.cond (.t 30)
                  .skip
                  (.exit 2))
                 (.seq
                  (.block 3
                   (.seq
                    (.reg [⟨some 31, none, .iaddr (.slice 5) (.t 27) (.t 29)⟩,
                     ⟨some 32, none, .load 5 true (.t 31)⟩,
                     ⟨some 9, none, .alloc [(.int .i64 0), (.int .i64 0), (.int .i64 0), (.int .i64 0), (.int .i64 0)]⟩,
                     ⟨none, none, .store 5 (.t 9) (.t 32)⟩])
                    (.seq
                     (.reg [⟨some 33, none, .mov (.t 7)⟩,
                      ⟨some 34, none, .faddr 0 (.t 9)⟩,
                      ⟨some 35, none, .load 1 false (.t 34)⟩,
                      ⟨some 36, none, .mget false [.i] false (.bool false) (.t 33) (.t 35)⟩,
                      ⟨some 37, none, .mov (.t 36)⟩,
                      ⟨some 38, some (37, false), .mov (.t 7)⟩,
                      ⟨some 39, some (37, false), .faddr 2 (.t 9)⟩,
                      ⟨some 40, some (37, false), .load 1 false (.t 39)⟩,
                      ⟨some 41, some (37, false), .mget false [.i] false (.bool false) (.t 38) (.t 40)⟩,
                      ⟨some 42, none, .pick (.t 37) (.c (.bool true)) (.t 41)⟩])
                     (.cond (.t 42)
                      (.regd [4, 5] [⟨some 43, none, .mov (.t 7)⟩,
                       ⟨some 44, none, .faddr 0 (.t 9)⟩,
                       ⟨some 45, none, .load 1 false (.t 44)⟩,
                       ⟨some 46, none, .mov (.t 7)⟩,
                       ⟨some 47, none, .faddr 2 (.t 9)⟩,
                       ⟨some 48, none, .load 1 false (.t 47)⟩,
                       ⟨none, none, .mset [.i] false (.t 43) (.t 45) (.c (.bool true))⟩,
                       ⟨none, none, .mset [.i] false (.t 46) (.t 48) (.c (.bool true))⟩])
                      .skip))))
                  (.reg [⟨some 49, none, .bin .add (.t 29) (.c (.int .i64 1))⟩,
                   ⟨some 29, none, .mov (.t 49)⟩]))))
def c16b1 : AC := (.seq
         (.reg [⟨some 25, none, .bin .lss (.t 24) (.t 23)⟩])
         (.seq
          (.cond (.t 25)
           .skip
           (.exit 0))
          (.seq
           (.block 1
            (.seq
             (.reg [⟨some 26, none, .mov (.t 1)⟩,
              ⟨some 27, none, .call false 26 [(.t 26)]⟩,
              ⟨some 28, none, .len (.t 27)⟩,
              ⟨some 29, none, .mov (.c (.int .i64 0))⟩])
             (.block 2
              (.loop [1, 2, 7, 23, 24, 27, 28, 29]
               c16b0))))
           (.reg [⟨some 50, none, .bin .add (.t 24) (.c (.int .i64 1))⟩,
            ⟨some 24, none, .mov (.t 50)⟩]))))
/-- tracebook/clock.Linked -/
def c16 : AFn := ⟨3, 54, [.t 6],
 (.seq
  (.reg [⟨some 6, none, .mov (.c (.bool false))⟩])
  (.seq
   (.seq
    (.reg [⟨some 10, none, .mov (.t 0)⟩,
     ⟨some 11, none, .mov (.t 1)⟩,
     ⟨some 12, none, .call false 12 [(.t 10), (.t 11)]⟩,
     ⟨some 13, none, .bin .neq (.t 12) (.c (.int .i64 0))⟩,
     ⟨some 14, none, .mov (.t 13)⟩,
     ⟨some 15, some (14, false), .mov (.t 0)⟩,
     ⟨some 16, some (14, false), .mov (.t 2)⟩,
     ⟨some 17, some (14, false), .call false 22 [(.t 15), (.t 16)]⟩,
     ⟨some 18, some (14, false), .bin .lss (.t 17) (.c (.int .i64 0))⟩,
     ⟨some 19, none, .pick (.t 14) (.c (.bool true)) (.t 18)⟩])
    (.cond (.t 19)
     (.seq
      (.reg [⟨some 6, none, .mov (.c (.bool false))⟩])
      .ret)
     .skip))
   (.seq
    (.reg [⟨some 20, none, .mkmap none⟩,
     ⟨none, none, .mset [.i] false (.t 20) (.c (.int .i64 0)) (.c (.bool true))⟩,
     ⟨some 21, none, .mov (.t 20)⟩,
     ⟨some 7, none, .mov (.t 21)⟩])
    (.seq
     (.seq
      (.reg [⟨some 22, none, .mov (.t 0)⟩,
       ⟨some 23, none, .len (.t 22)⟩,
       ⟨some 24, none, .mov (.c (.int .i64 0))⟩])
      (.block 0
       (.loop [1, 2, 7, 23, 24]
        c16b1)))
     (.seq
      (.reg [⟨some 51, none, .mov (.t 7)⟩,
       ⟨some 52, none, .mov (.t 2)⟩,
       ⟨some 53, none, .mget false [.i] false (.bool false) (.t 51) (.t 52)⟩,
       ⟨some 6, none, .mov (.t 53)⟩])
      .ret))))), none⟩
def k16 : List (List Nat) := [[1, 2, 7, 23, 24], [1, 2, 7, 23, 24, 27, 28, 29]]
def o16 : List Nat := [1000028, 1000029, 1000035, 1000037, 1000038, 1000039, 1000041, 1000042, 1000044, 1000045, 1000048, 3000000]
/-- tracebook/tracebookref14.Linked -/
def c17 : AFn := ⟨3, 23, [.t 6],
 (.seq
  (.reg [⟨some 6, none, .mov (.c (.bool false))⟩])
  (.seq
   (.reg [⟨some 7, none, .mov (.t 0)⟩,
    ⟨some 8, none, .mov (.t 1)⟩,
    ⟨some 9, none, .call false 13 [(.t 7), (.t 8)]⟩,
    ⟨some 10, none, .bin .eql (.t 9) (.c (.int .i64 0))⟩,
    ⟨some 11, none, .mov (.t 10)⟩,
    ⟨some 12, some (11, true), .mov (.t 0)⟩,
    ⟨some 13, some (11, true), .mov (.t 2)⟩,
    ⟨some 14, some (11, true), .call false 24 [(.t 12), (.t 13)]⟩,
    ⟨some 15, some (11, true), .bin .geq (.t 14) (.c (.int .i64 0))⟩,
    ⟨some 16, none, .pick (.t 11) (.t 15) (.c (.bool false))⟩,
    ⟨some 17, none, .mov (.t 16)⟩,
    ⟨some 18, some (17, true), .mov (.t 1)⟩,
    ⟨some 19, some (17, true), .call false 27 [(.t 18)]⟩,
    ⟨some 20, some (17, true), .mov (.t 2)⟩,
    ⟨some 21, some (17, true), .call false 21 [(.t 19), (.t 20)]⟩,
    ⟨some 22, none, .pick (.t 17) (.t 21) (.c (.bool false))⟩,
    ⟨some 6, none, .mov (.t 22)⟩])
   .ret)), none⟩
def k17 : List (List Nat) := []
def o17 : List Nat := [1000028, 1000029, 1000035, 1000037, 1000038, 1000039, 1000041, 1000042, 1000044, 1000045, 1000048, 3000000]
def c18b0 : AC := (.seq
        (.reg [⟨some 12, none, .bin .lss (.t 11) (.t 10)⟩])
        (.seq
         (.cond (.t 12)
          .skip
          (.exit 0))
         (.seq
          (.block 1
           (.seq
            (.reg [⟨some 13, none, .iaddr (.slice 5) (.t 9) (.t 11)⟩,
             ⟨some 14, none, .load 5 true (.t 13)⟩,
             ⟨some 7, none, .alloc [(.int .i64 0), (.int .i64 0), (.int .i64 0), (.int .i64 0), (.int .i64 0)]⟩,
             ⟨none, none, .store 5 (.t 7) (.t 14)⟩])
            (.seq
             (.seq
              (.reg [⟨some 15, none, .faddr 0 (.t 7)⟩,
               ⟨some 16, none, .load 1 false (.t 15)⟩,
               ⟨some 17, none, .mov (.t 1)⟩,
               ⟨some 18, none, .bin .eql (.t 16) (.t 17)⟩])
              (.cond (.t 18)
               (.reg [⟨some 19, none, .mov (.t 5)⟩,
                ⟨some 20, none, .faddr 1 (.t 7)⟩,
                ⟨some 21, none, .load 1 false (.t 20)⟩,
                ⟨some 22, none, .bslice false 1 [(.int .i64 0)] 1 [(0, (.t 21))]⟩,
                ⟨some 23, none, .append 1 8 (.t 19) (.t 22)⟩,
                ⟨some 5, none, .mov (.t 23)⟩])
               .skip))
             (.seq
              (.reg [⟨some 24, none, .faddr 2 (.t 7)⟩,
               ⟨some 25, none, .load 1 false (.t 24)⟩,
               ⟨some 26, none, .mov (.t 1)⟩,
               ⟨some 27, none, .bin .eql (.t 25) (.t 26)⟩])
              (.cond (.t 27)
               (.reg [⟨some 28, none, .mov (.t 5)⟩,
                ⟨some 29, none, .faddr 3 (.t 7)⟩,
                ⟨some 30, none, .faddr 0 (.t 29)⟩,
                ⟨some 31, none, .load 1 false (.t 30)⟩,
                ⟨some 32, none, .faddr 3 (.t 7)⟩,
                ⟨some 33, none, .faddr 1 (.t 32)⟩,
                ⟨some 34, none, .load 1 false (.t 33)⟩,
                ⟨some 35, none, .bslice false 1 [(.int .i64 0)] 2 [(0, (.t 31)), (1, (.t 34))]⟩,
                ⟨some 36, none, .append 1 8 (.t 28) (.t 35)⟩,
                ⟨some 5, none, .mov (.t 36)⟩])
               .skip)))))
          (.reg [⟨some 37, none, .bin .add (.t 11) (.c (.int .i64 1))⟩,
           ⟨some 11, none, .mov (.t 37)⟩]))))
def c18r0 : AC := (.seq
     (.reg [⟨some 38, none, .mov (.t 5)⟩,
      ⟨some 39, none, .callS 28 [(.t 38)]⟩])
     (.seq
      (.reg [⟨some 40, none, .mov (.t 5)⟩,
       ⟨some 41, none, .callS 29 [(.t 40)]⟩,
       ⟨some 4, none, .mov (.t 41)⟩])
      .ret))
/-- tracebook/clock.Points -/
def c18 : AFn := ⟨2, 42, [.t 4],
 (.seq
  (.reg [⟨some 4, none, .nilv 1⟩])
  (.seq
   (.reg [⟨some 5, none, .nilv 1⟩])
   (.seq
    (.seq
     (.reg [⟨some 8, none, .mov (.t 0)⟩,
      ⟨some 9, none, .call false 26 [(.t 8)]⟩,
      ⟨some 10, none, .len (.t 9)⟩,
      ⟨some 11, none, .mov (.c (.int .i64 0))⟩])
     (.block 0
      (.loop [1, 5, 9, 10, 11]
       c18b0)))
    c18r0))), none⟩
def k18 : List (List Nat) := [[1, 5, 9, 10, 11]]
def o18 : List Nat := [1000028, 1000029, 1000035, 1000037, 1000038, 1000039, 1000041, 1000042, 1000044, 1000045, 1000048, 3000000]
def c19b0 : AC := (.seq
        (.seq
         (.reg [⟨some 11, none, .mov (.t 5)⟩,
          ⟨some 12, none, .mov (.t 0)⟩,
          ⟨some 13, none, .len (.t 12)⟩,
          ⟨some 14, none, .bin .lss (.t 11) (.t 13)⟩])
         (.cond (.t 14)
          .skip
          (.exit 0)))
        (.seq
         (.block 1
          (.seq
           (.reg [⟨some 17, none, .mov (.t 0)⟩,
            ⟨some 18, none, .mov (.t 5)⟩,
            ⟨some 19, none, .iaddr (.slice 1) (.t 17) (.t 18)⟩,
            ⟨some 20, none, .load 1 false (.t 19)⟩,
            ⟨some 21, none, .mov (.t 1)⟩,
            ⟨some 22, none, .mov (.t 5)⟩,
            ⟨some 23, none, .iaddr (.slice 1) (.t 21) (.t 22)⟩,
            ⟨some 24, none, .load 1 false (.t 23)⟩,
            ⟨some 25, none, .bin .neq (.t 20) (.t 24)⟩])
           (.cond (.t 25)
            (.seq
             (.reg [⟨some 4, none, .mov (.c (.bool false))⟩])
             .ret)
            .skip)))
         (.reg [⟨some 15, none, .mov (.t 5)⟩,
          ⟨some 16, none, .bin .add (.t 15) (.c (.int .i64 1))⟩,
          ⟨some 5, none, .mov (.t 16)⟩])))
/-- tracebook/tracebooklaw14.equal -/
def c19 : AFn := ⟨2, 26, [.t 4],
 (.seq
  (.reg [⟨some 4, none, .mov (.c (.bool false))⟩])
  (.seq
   (.seq
    (.reg [⟨some 6, none, .mov (.t 0)⟩,
     ⟨some 7, none, .len (.t 6)⟩,
     ⟨some 8, none, .mov (.t 1)⟩,
     ⟨some 9, none, .len (.t 8)⟩,
     ⟨some 10, none, .bin .neq (.t 7) (.t 9)⟩])
    (.cond (.t 10)
     (.seq
      (.reg [⟨some 4, none, .mov (.c (.bool false))⟩])
      .ret)
     .skip))
   (.seq
    (.seq
     (.reg [⟨some 5, none, .mov (.c (.int .i64 0))⟩])
     (.block 0
      (.loop [0, 1, 5]
       c19b0)))
    (.seq
     (.reg [⟨some 4, none, .mov (.c (.bool true))⟩])
     .ret)))), none⟩
def k19 : List (List Nat) := [[0, 1, 5]]
def o19 : List Nat := [1000028, 1000029, 1000035, 1000037, 1000038, 1000039, 1000041, 1000042, 1000044, 1000045, 1000048, 3000000]
def c20b0 : AC := (.seq
        (.seq
         (.reg [⟨some 7, none, .mov (.t 6)⟩,
          ⟨some 8, none, .mov (.t 0)⟩,
          ⟨some 9, none, .len (.t 8)⟩,
          ⟨some 10, none, .bin .lss (.t 7) (.t 9)⟩])
         (.cond (.t 10)
          .skip
          (.exit 0)))
        (.seq
         (.block 1
          (.seq
           (.seq
            (.reg [⟨some 13, none, .mov (.t 0)⟩,
             ⟨some 14, none, .mov (.t 6)⟩,
             ⟨some 15, none, .iaddr (.slice 5) (.t 13) (.t 14)⟩,
             ⟨some 16, none, .faddr 0 (.t 15)⟩,
             ⟨some 17, none, .load 1 false (.t 16)⟩,
             ⟨some 18, none, .mov (.t 1)⟩,
             ⟨some 19, none, .bin .eql (.t 17) (.t 18)⟩])
            (.cond (.t 19)
             (.reg [⟨some 20, none, .mov (.t 5)⟩,
              ⟨some 21, none, .mov (.t 0)⟩,
              ⟨some 22, none, .mov (.t 6)⟩,
              ⟨some 23, none, .iaddr (.slice 5) (.t 21) (.t 22)⟩,
              ⟨some 24, none, .faddr 1 (.t 23)⟩,
              ⟨some 25, none, .load 1 false (.t 24)⟩,
              ⟨some 26, none, .call false 30 [(.t 20), (.t 25)]⟩,
              ⟨some 5, none, .mov (.t 26)⟩])
             .skip))
           (.seq
            (.reg [⟨some 27, none, .mov (.t 0)⟩,
             ⟨some 28, none, .mov (.t 6)⟩,
             ⟨some 29, none, .iaddr (.slice 5) (.t 27) (.t 28)⟩,
             ⟨some 30, none, .faddr 2 (.t 29)⟩,
             ⟨some 31, none, .load 1 false (.t 30)⟩,
             ⟨some 32, none, .mov (.t 1)⟩,
             ⟨some 33, none, .bin .eql (.t 31) (.t 32)⟩])
            (.cond (.t 33)
             (.reg [⟨some 34, none, .mov (.t 5)⟩,
              ⟨some 35, none, .mov (.t 0)⟩,
              ⟨some 36, none, .mov (.t 6)⟩,
              ⟨some 37, none, .iaddr (.slice 5) (.t 35) (.t 36)⟩,
              ⟨some 38, none, .faddr 3 (.t 37)⟩,
              ⟨some 39, none, .faddr 0 (.t 38)⟩,
              ⟨some 40, none, .load 1 false (.t 39)⟩,
              ⟨some 41, none, .call false 30 [(.t 34), (.t 40)]⟩,
              ⟨some 42, none, .mov (.t 0)⟩,
              ⟨some 43, none, .mov (.t 6)⟩,
              ⟨some 44, none, .iaddr (.slice 5) (.t 42) (.t 43)⟩,
              ⟨some 45, none, .faddr 3 (.t 44)⟩,
              ⟨some 46, none, .faddr 1 (.t 45)⟩,
              ⟨some 47, none, .load 1 false (.t 46)⟩,
              ⟨some 48, none, .call false 30 [(.t 41), (.t 47)]⟩,
              ⟨some 5, none, .mov (.t 48)⟩])
             .skip))))
         (.reg [⟨some 11, none, .mov (.t 6)⟩,
          ⟨some 12, none, .bin .add (.t 11) (.c (.int .i64 1))⟩,
          ⟨some 6, none, .mov (.t 12)⟩])))
/-- tracebook/tracebookref14.Points -/
def c20 : AFn := ⟨2, 50, [.t 4],
 (.seq
  (.reg [⟨some 4, none, .nilv 1⟩])
  (.seq
   (.reg [⟨some 5, none, .nilv 1⟩])
   (.seq
    (.seq
     (.reg [⟨some 6, none, .mov (.c (.int .i64 0))⟩])
     (.block 0
      (.loop [0, 1, 5, 6]
       c20b0)))
    (.seq
     (.reg [⟨some 49, none, .mov (.t 5)⟩,
      ⟨some 4, none, .mov (.t 49)⟩])
     .ret)))), none⟩
def k20 : List (List Nat) := [[0, 1, 5, 6]]
def o20 : List Nat := [1000028, 1000029, 1000035, 1000037, 1000038, 1000039, 1000041, 1000042, 1000044, 1000045, 1000048, 3000000]
def c21b0 : AC := (.seq
       (.seq
        (.reg [⟨some 6, none, .mov (.t 5)⟩,
         ⟨some 7, none, .mov (.t 0)⟩,
         ⟨some 8, none, .len (.t 7)⟩,
         ⟨some 9, none, .bin .lss (.t 6) (.t 8)⟩])
        (.cond (.t 9)
         .skip
         (.exit 0)))
       (.seq
        (.block 1
         (.seq
          (.reg [⟨some 12, none, .mov (.t 0)⟩,
           ⟨some 13, none, .mov (.t 5)⟩,
           ⟨some 14, none, .iaddr (.slice 1) (.t 12) (.t 13)⟩,
           ⟨some 15, none, .load 1 false (.t 14)⟩,
           ⟨some 16, none, .mov (.t 1)⟩,
           ⟨some 17, none, .bin .eql (.t 15) (.t 16)⟩])
          (.cond (.t 17)
           (.seq
            (.reg [⟨some 4, none, .mov (.c (.bool true))⟩])
            .ret)
           .skip)))
        (.reg [⟨some 10, none, .mov (.t 5)⟩,
         ⟨some 11, none, .bin .add (.t 10) (.c (.int .i64 1))⟩,
         ⟨some 5, none, .mov (.t 11)⟩])))
/-- tracebook/tracebookref14.Has -/
def c21 : AFn := ⟨2, 18, [.t 4],
 (.seq
  (.reg [⟨some 4, none, .mov (.c (.bool false))⟩])
  (.seq
   (.seq
    (.reg [⟨some 5, none, .mov (.c (.int .i64 0))⟩])
    (.block 0
     (.loop [0, 1, 5]
      c21b0)))
   (.seq
    (.reg [⟨some 4, none, .mov (.c (.bool false))⟩])
    .ret))), none⟩
def k21 : List (List Nat) := [[0, 1, 5]]
def o21 : List Nat := [1000028, 1000029, 1000035, 1000037, 1000038, 1000039, 1000041, 1000042, 1000044, 1000045, 1000048, 3000000]
/-- tracebook/clock.find -/
def c22 : AFn := ⟨2, 8, [.t 4],
 (.seq
  (.reg [⟨some 3, none, .box (.t 1)⟩,
   ⟨some 4, none, .mov (.c (.int .i64 0))⟩])
  (.seq
   (.reg [⟨some 5, none, .mov (.t 0)⟩,
    ⟨some 6, none, .mkfn 32 [(.t 3)]⟩,
    ⟨some 7, none, .call false 31 [(.t 5), (.t 6)]⟩,
    ⟨some 4, none, .mov (.t 7)⟩])
   .ret)), none⟩
def k22 : List (List Nat) := []
def o22 : List Nat := [1000028, 1000029, 1000035, 1000037, 1000038, 1000039, 1000041, 1000042, 1000044, 1000045, 1000048, 3000000]
/-- tracebook/clock.checkSnap -/
def c23 : AFn := ⟨2, 46, [.t 4],
 (.seq
  (.reg [⟨some 3, none, .box (.t 1)⟩,
   ⟨some 4, none, .mov (.c (.int .i64 0))⟩])
  (.seq
   (.block 0
    (.seq
     (.reg [⟨some 6, none, .mov (.t 0)⟩,
      ⟨some 7, none, .faddr 0 (.t 3)⟩,
      ⟨some 8, none, .load 1 false (.t 7)⟩,
      ⟨some 9, none, .call false 22 [(.t 6), (.t 8)]⟩,
      ⟨some 10, none, .bin .lss (.t 9) (.c (.int .i64 0))⟩,
      ⟨some 11, none, .mov (.t 10)⟩,
      ⟨some 12, some (11, false), .mov (.t 0)⟩,
      ⟨some 13, some (11, false), .faddr 2 (.t 3)⟩,
      ⟨some 14, some (11, false), .load 1 false (.t 13)⟩,
      ⟨some 15, some (11, false), .call false 22 [(.t 12), (.t 14)]⟩,
      ⟨some 16, some (11, false), .bin .lss (.t 15) (.c (.int .i64 0))⟩,
      ⟨some 17, none, .pick (.t 11) (.c (.bool true)) (.t 16)⟩,
      ⟨some 5, none, .mov (.t 17)⟩])
     (.cond (.t 5)
      (.seq
       (.reg [⟨some 4, none, .mov (.c (.int .i64 5))⟩])
       .ret)
      (.seq
       (.reg [⟨some 19, none, .faddr 0 (.t 3)⟩,
        ⟨some 20, none, .load 1 false (.t 19)⟩,
        ⟨some 21, none, .faddr 2 (.t 3)⟩,
        ⟨some 22, none, .load 1 false (.t 21)⟩,
        ⟨some 23, none, .bin .eql (.t 20) (.t 22)⟩,
        ⟨some 18, none, .mov (.t 23)⟩])
       (.cond (.t 18)
        (.seq
         (.reg [⟨some 4, none, .mov (.c (.int .i64 1))⟩])
         .ret)
        (.seq
         (.seq
          (.reg [⟨some 25, none, .faddr 1 (.t 3)⟩,
           ⟨some 26, none, .load 1 false (.t 25)⟩,
           ⟨some 27, none, .call false 33 [(.t 26)]⟩,
           ⟨some 28, none, .un .not (.t 27)⟩,
           ⟨some 24, none, .mov (.t 28)⟩])
          (.cond (.t 24)
           .skip
           (.seq
            (.reg [⟨some 29, none, .faddr 3 (.t 3)⟩,
             ⟨some 30, none, .faddr 0 (.t 29)⟩,
             ⟨some 31, none, .load 1 false (.t 30)⟩,
             ⟨some 32, none, .call false 33 [(.t 31)]⟩,
             ⟨some 33, none, .un .not (.t 32)⟩,
             ⟨some 24, none, .mov (.t 33)⟩])
            (.cond (.t 24)
             .skip
             (.seq
              (.reg [⟨some 34, none, .faddr 3 (.t 3)⟩,
               ⟨some 35, none, .faddr 1 (.t 34)⟩,
               ⟨some 36, none, .load 1 false (.t 35)⟩,
               ⟨some 37, none, .call false 33 [(.t 36)]⟩,
               ⟨some 38, none, .un .not (.t 37)⟩,
               ⟨some 24, none, .mov (.t 38)⟩])
              (.cond (.t 24)
               .skip
               (.reg [⟨some 39, none, .faddr 3 (.t 3)⟩,
                ⟨some 40, none, .faddr 0 (.t 39)⟩,
                ⟨some 41, none, .load 1 false (.t 40)⟩,
                ⟨some 42, none, .faddr 3 (.t 3)⟩,
                ⟨some 43, none, .faddr 1 (.t 42)⟩,
                ⟨some 44, none, .load 1 false (.t 43)⟩,
                ⟨some 45, none, .bin .gtr (.t 41) (.t 44)⟩,
                ⟨some 24, none, .mov (.t 45)⟩])))))))
         (.cond (.t 24)
          (.seq
           (.reg [⟨some 4, none, .mov (.c (.int .i64 2))⟩])
           .ret)
          .skip)))))))
   (.seq
    (.reg [⟨some 4, none, .mov (.c (.int .i64 0))⟩])
    .ret))), none⟩
def k23 : List (List Nat) := []
def o23 : List Nat := [1000028, 1000029, 1000035, 1000037, 1000038, 1000039, 1000041, 1000042, 1000044, 1000045, 1000048, 3000000]
def c24b0 : AC := (.seq
       (.seq
        (.reg [⟨some 6, none, .mov (.t 5)⟩,
         ⟨some 7, none, .mov (.t 0)⟩,
         ⟨some 8, none, .len (.t 7)⟩,
         ⟨some 9, none, .bin .lss (.t 6) (.t 8)⟩])
        (.cond (.t 9)
         .skip
         (.exit 0)))
       (.seq
        (.block 1
         (.seq
          (.reg [⟨some 12, none, .mov (.t 0)⟩,
           ⟨some 13, none, .mov (.t 5)⟩,
           ⟨some 14, none, .iaddr (.slice 2) (.t 12) (.t 13)⟩,
           ⟨some 15, none, .faddr 0 (.t 14)⟩,
           ⟨some 16, none, .load 1 false (.t 15)⟩,
           ⟨some 17, none, .mov (.t 1)⟩,
           ⟨some 18, none, .bin .eql (.t 16) (.t 17)⟩])
          (.cond (.t 18)
           (.seq
            (.reg [⟨some 19, none, .mov (.t 5)⟩,
             ⟨some 4, none, .mov (.t 19)⟩])
            .ret)
           .skip)))
        (.reg [⟨some 10, none, .mov (.t 5)⟩,
         ⟨some 11, none, .bin .add (.t 10) (.c (.int .i64 1))⟩,
         ⟨some 5, none, .mov (.t 11)⟩])))
/-- tracebook/tracebookref14.find -/
def c24 : AFn := ⟨2, 20, [.t 4],
 (.seq
  (.reg [⟨some 4, none, .mov (.c (.int .i64 0))⟩])
  (.seq
   (.seq
    (.reg [⟨some 5, none, .mov (.c (.int .i64 0))⟩])
    (.block 0
     (.loop [0, 1, 5]
      c24b0)))
   (.seq
    (.reg [⟨some 4, none, .mov (.c (.int .i64 (-1)))⟩])
    .ret))), none⟩
def k24 : List (List Nat) := [[0, 1, 5]]
def o24 : List Nat := [1000028, 1000029, 1000035, 1000037, 1000038, 1000039, 1000041, 1000042, 1000044, 1000045, 1000048, 3000000]
/-- tracebook/tracebookref14.snap -/
def c25 : AFn := ⟨2, 52, [.t 4],
 (.seq
  (.reg [⟨some 3, none, .box (.t 1)⟩,
   ⟨some 4, none, .mov (.c (.int .i64 0))⟩])
  (.seq
   (.block 0
    (.seq
     (.reg [⟨some 6, none, .mov (.t 0)⟩,
      ⟨some 7, none, .faddr 0 (.t 3)⟩,
      ⟨some 8, none, .load 1 false (.t 7)⟩,
      ⟨some 9, none, .call false 24 [(.t 6), (.t 8)]⟩,
      ⟨some 10, none, .bin .lss (.t 9) (.c (.int .i64 0))⟩,
      ⟨some 11, none, .mov (.t 10)⟩,
      ⟨some 12, some (11, false), .mov (.t 0)⟩,
      ⟨some 13, some (11, false), .faddr 2 (.t 3)⟩,
      ⟨some 14, some (11, false), .load 1 false (.t 13)⟩,
      ⟨some 15, some (11, false), .call false 24 [(.t 12), (.t 14)]⟩,
      ⟨some 16, some (11, false), .bin .lss (.t 15) (.c (.int .i64 0))⟩,
      ⟨some 17, none, .pick (.t 11) (.c (.bool true)) (.t 16)⟩,
      ⟨some 5, none, .mov (.t 17)⟩])
     (.cond (.t 5)
      (.seq
       (.reg [⟨some 4, none, .mov (.c (.int .i64 5))⟩])
       .ret)
      (.seq
       (.reg [⟨some 19, none, .faddr 0 (.t 3)⟩,
        ⟨some 20, none, .load 1 false (.t 19)⟩,
        ⟨some 21, none, .faddr 2 (.t 3)⟩,
        ⟨some 22, none, .load 1 false (.t 21)⟩,
        ⟨some 23, none, .bin .eql (.t 20) (.t 22)⟩,
        ⟨some 18, none, .mov (.t 23)⟩])
       (.cond (.t 18)
        (.seq
         (.reg [⟨some 4, none, .mov (.c (.int .i64 1))⟩])
         .ret)
        (.seq
         (.reg [⟨some 25, none, .faddr 1 (.t 3)⟩,
          ⟨some 26, none, .load 1 false (.t 25)⟩,
          ⟨some 27, none, .call false 34 [(.t 26)]⟩,
          ⟨some 28, none, .un .not (.t 27)⟩,
          ⟨some 29, none, .mov (.t 28)⟩,
          ⟨some 30, some (29, false), .faddr 3 (.t 3)⟩,
          ⟨some 31, some (29, false), .faddr 0 (.t 30)⟩,
          ⟨some 32, some (29, false), .load 1 false (.t 31)⟩,
          ⟨some 33, some (29, false), .call false 34 [(.t 32)]⟩,
          ⟨some 34, some (29, false), .un .not (.t 33)⟩,
          ⟨some 35, none, .pick (.t 29) (.c (.bool true)) (.t 34)⟩,
          ⟨some 36, none, .mov (.t 35)⟩,
          ⟨some 37, some (36, false), .faddr 3 (.t 3)⟩,
          ⟨some 38, some (36, false), .faddr 1 (.t 37)⟩,
          ⟨some 39, some (36, false), .load 1 false (.t 38)⟩,
          ⟨some 40, some (36, false), .call false 34 [(.t 39)]⟩,
          ⟨some 41, some (36, false), .un .not (.t 40)⟩,
          ⟨some 42, none, .pick (.t 36) (.c (.bool true)) (.t 41)⟩,
          ⟨some 43, none, .mov (.t 42)⟩,
          ⟨some 44, some (43, false), .faddr 3 (.t 3)⟩,
          ⟨some 45, some (43, false), .faddr 0 (.t 44)⟩,
          ⟨some 46, some (43, false), .load 1 false (.t 45)⟩,
          ⟨some 47, some (43, false), .faddr 3 (.t 3)⟩,
          ⟨some 48, some (43, false), .faddr 1 (.t 47)⟩,
          ⟨some 49, some (43, false), .load 1 false (.t 48)⟩,
          ⟨some 50, some (43, false), .bin .gtr (.t 46) (.t 49)⟩,
          ⟨some 51, none, .pick (.t 43) (.c (.bool true)) (.t 50)⟩,
          ⟨some 24, none, .mov (.t 51)⟩])
         (.cond (.t 24)
          (.seq
           (.reg [⟨some 4, none, .mov (.c (.int .i64 2))⟩])
           .ret)
          .skip)))))))
   (.seq
    (.reg [⟨some 4, none, .mov (.c (.int .i64 0))⟩])
    .ret))), none⟩
def k25 : List (List Nat) := []
def o25 : List Nat := [1000028, 1000029, 1000035, 1000037, 1000038, 1000039, 1000041, 1000042, 1000044, 1000045, 1000048, 3000000]
def c26b0 : AC := (.seq
        (.reg [⟨some 9, none, .bin .lss (.t 8) (.t 7)⟩])
        (.seq
         (.cond (.t 9)
          .skip
          (.exit 0))
         (.seq
          (.block 1
           (.seq
            (.reg [⟨some 10, none, .mov (.t 8)⟩,
             ⟨some 11, none, .iaddr (.slice 5) (.t 6) (.t 8)⟩,
             ⟨some 12, none, .load 5 true (.t 11)⟩,
             ⟨some 5, none, .alloc [(.int .i64 0), (.int .i64 0), (.int .i64 0), (.int .i64 0), (.int .i64 0)]⟩,
             ⟨some 4, none, .mov (.t 10)⟩,
             ⟨none, none, .store 5 (.t 5) (.t 12)⟩])
            (.seq
             (.reg [⟨some 13, none, .mov (.t 4)⟩,
              ⟨some 14, none, .bin .eql (.t 13) (.c (.int .i64 0))⟩,
              ⟨some 15, none, .mov (.t 14)⟩,
              ⟨some 16, some (15, false), .load 5 true (.t 5)⟩,
              ⟨some 17, some (15, false), .mov (.t 0)⟩,
              ⟨some 18, some (15, false), .mov (.t 4)⟩,
              ⟨some 19, some (15, false), .bin .sub (.t 18) (.c (.int .i64 1))⟩,
              ⟨some 20, some (15, false), .iaddr (.slice 5) (.t 17) (.t 19)⟩,
              ⟨some 21, some (15, false), .load 5 true (.t 20)⟩,
              ⟨some 22, some (15, false), .beqA true [.i, .i, .i, .i, .i] (.t 16) (.t 21)⟩,
              ⟨some 23, none, .pick (.t 15) (.c (.bool true)) (.t 22)⟩])
             (.cond (.t 23)
              (.reg [⟨some 24, none, .mov (.t 3)⟩,
               ⟨some 25, none, .load 5 true (.t 5)⟩,
               ⟨some 26, none, .bslice false 5 [(.int .i64 0), (.int .i64 0), (.int .i64 0), (.int .i64 0), (.int .i64 0)] 1 [(0, (.t 25))]⟩,
               ⟨some 27, none, .append 5 40 (.t 24) (.t 26)⟩,
               ⟨some 3, none, .mov (.t 27)⟩])
              .skip))))
          (.reg [⟨some 28, none, .bin .add (.t 8) (.c (.int .i64 1))⟩,
           ⟨some 8, none, .mov (.t 28)⟩]))))
/-- tracebook/clock.distinct -/
def c26 : AFn := ⟨1, 30, [.t 2],
 (.seq
  (.reg [⟨some 2, none, .nilv 5⟩])
  (.seq
   (.reg [⟨some 3, none, .nilv 5⟩])
   (.seq
    (.seq
     (.reg [⟨some 6, none, .mov (.t 0)⟩,
      ⟨some 7, none, .len (.t 6)⟩,
      ⟨some 8, none, .mov (.c (.int .i64 0))⟩])
     (.block 0
      (.loop [0, 3, 6, 7, 8]
       c26b0)))
    (.seq
     (.reg [⟨some 29, none, .mov (.t 3)⟩,
      ⟨some 2, none, .mov (.t 29)⟩])
     .ret)))), none⟩
def k26 : List (List Nat) := [[0, 3, 6, 7, 8]]
def o26 : List Nat := [1000028, 1000029, 1000035, 1000037, 1000038, 1000039, 1000041, 1000042, 1000044, 1000045, 1000048, 3000000]
def c27b0 : AC := (.seq
              (.seq
               (.reg [⟨some 13, none, .mov (.t 5)⟩,
                ⟨some 14, none, .mov (.t 0)⟩,
                ⟨some 15, none, .len (.t 14)⟩,
                ⟨some 16, none, .bin .lss (.t 13) (.t 15)⟩])
               (.cond (.t 16)
                .skip
                (.exit 2)))
              (.seq
               (.block 3
                (.seq
                 (.seq
                  (.reg [⟨some 19, none, .mov (.t 0)⟩,
                   ⟨some 20, none, .mov (.t 5)⟩,
                   ⟨some 21, none, .iaddr (.slice 5) (.t 19) (.t 20)⟩,
                   ⟨some 22, none, .faddr 0 (.t 21)⟩,
                   ⟨some 23, none, .load 1 false (.t 22)⟩,
                   ⟨some 24, none, .mov (.t 3)⟩,
                   ⟨some 25, none, .mov (.t 4)⟩,
                   ⟨some 26, none, .iaddr (.slice 1) (.t 24) (.t 25)⟩,
                   ⟨some 27, none, .load 1 false (.t 26)⟩,
                   ⟨some 28, none, .bin .eql (.t 23) (.t 27)⟩,
                   ⟨some 29, none, .mov (.t 28)⟩,
                   ⟨some 30, some (29, true), .mov (.t 3)⟩,
                   ⟨some 31, some (29, true), .mov (.t 0)⟩,
                   ⟨some 32, some (29, true), .mov (.t 5)⟩,
                   ⟨some 33, some (29, true), .iaddr (.slice 5) (.t 31) (.t 32)⟩,
                   ⟨some 34, some (29, true), .faddr 2 (.t 33)⟩,
                   ⟨some 35, some (29, true), .load 1 false (.t 34)⟩,
                   ⟨some 36, some (29, true), .call false 21 [(.t 30), (.t 35)]⟩,
                   ⟨some 37, some (29, true), .un .not (.t 36)⟩,
                   ⟨some 38, none, .pick (.t 29) (.t 37) (.c (.bool false))⟩])
                  (.cond (.t 38)
                   (.reg [⟨some 39, none, .mov (.t 3)⟩,
                    ⟨some 40, none, .mov (.t 0)⟩,
                    ⟨some 41, none, .mov (.t 5)⟩,
                    ⟨some 42, none, .iaddr (.slice 5) (.t 40) (.t 41)⟩,
                    ⟨some 43, none, .faddr 2 (.t 42)⟩,
                    ⟨some 44, none, .load 1 false (.t 43)⟩,
                    ⟨some 45, none, .bslice false 1 [(.int .i64 0)] 1 [(0, (.t 44))]⟩,
                    ⟨some 46, none, .append 1 8 (.t 39) (.t 45)⟩,
                    ⟨some 3, none, .mov (.t 46)⟩])
                   .skip))
                 (.seq
                  (.reg [⟨some 47, none, .mov (.t 0)⟩,
                   ⟨some 48, none, .mov (.t 5)⟩,
                   ⟨some 49, none, .iaddr (.slice 5) (.t 47) (.t 48)⟩,
                   ⟨some 50, none, .faddr 2 (.t 49)⟩,
                   ⟨some 51, none, .load 1 false (.t 50)⟩,
                   ⟨some 52, none, .mov (.t 3)⟩,
                   ⟨some 53, none, .mov (.t 4)⟩,
                   ⟨some 54, none, .iaddr (.slice 1) (.t 52) (.t 53)⟩,
                   ⟨some 55, none, .load 1 false (.t 54)⟩,
                   ⟨some 56, none, .bin .eql (.t 51) (.t 55)⟩,
                   ⟨some 57, none, .mov (.t 56)⟩,
                   ⟨some 58, some (57, true), .mov (.t 3)⟩,
                   ⟨some 59, some (57, true), .mov (.t 0)⟩,
                   ⟨some 60, some (57, true), .mov (.t 5)⟩,
                   ⟨some 61, some (57, true), .iaddr (.slice 5) (.t 59) (.t 60)⟩,
                   ⟨some 62, some (57, true), .faddr 0 (.t 61)⟩,
                   ⟨some 63, some (57, true), .load 1 false (.t 62)⟩,
                   ⟨some 64, some (57, true), .call false 21 [(.t 58), (.t 63)]⟩,
                   ⟨some 65, some (57, true), .un .not (.t 64)⟩,
                   ⟨some 66, none, .pick (.t 57) (.t 65) (.c (.bool false))⟩])
                  (.cond (.t 66)
                   (.reg [⟨some 67, none, .mov (.t 3)⟩,
                    ⟨some 68, none, .mov (.t 0)⟩,
                    ⟨some 69, none, .mov (.t 5)⟩,
                    ⟨some 70, none, .iaddr (.slice 5) (.t 68) (.t 69)⟩,
                    ⟨some 71, none, .faddr 0 (.t 70)⟩,
                    ⟨some 72, none, .load 1 false (.t 71)⟩,
                    ⟨some 73, none, .bslice false 1 [(.int .i64 0)] 1 [(0, (.t 72))]⟩,
                    ⟨some 74, none, .append 1 8 (.t 67) (.t 73)⟩,
                    ⟨some 3, none, .mov (.t 74)⟩])
                   .skip))))
               (.reg [⟨some 17, none, .mov (.t 5)⟩,
                ⟨some 18, none, .bin .add (.t 17) (.c (.int .i64 1))⟩,
                ⟨some 5, none, .mov (.t 18)⟩])))
def c27b1 : AC := (.seq
        (.seq
         (.reg [⟨some 7, none, .mov (.t 4)⟩,
          ⟨some 8, none, .mov (.t 3)⟩,
          ⟨some 9, none, .len (.t 8)⟩,
          ⟨some 10, none, .bin .lss (.t 7) (.t 9)⟩])
         (.cond (.t 10)
          .skip
          (.exit 0)))
        (.seq
         (.block 1
          (.seq
           (.reg [⟨some 5, none, .mov (.c (.int .i64 0))⟩])
           (.block 2
            (.loop [0, 3, 4, 5]
             c27b0))))
         (.reg [⟨some 11, none, .mov (.t 4)⟩,
          ⟨some 12, none, .bin .add (.t 11) (.c (.int .i64 1))⟩,
          ⟨some 4, none, .mov (.t 12)⟩])))
/-- tracebook/tracebookref14.reached -/
def c27 : AFn := ⟨1, 76, [.t 2],
 (.seq
  (.reg [⟨some 2, none, .nilv 1⟩])
  (.seq
   (.reg [⟨some 6, none, .bslice true 1 [(.int .i64 0)] 1 [(0, (.c (.int .i64 0)))]⟩,
    ⟨some 3, none, .mov (.t 6)⟩])
   (.seq
    (.seq
     (.reg [⟨some 4, none, .mov (.c (.int .i64 0))⟩])
     (.block 0
      (.loop [0, 3, 4]
       c27b1)))
    (.seq
     (.reg [⟨some 75, none, .mov (.t 3)⟩,
      ⟨some 2, none, .mov (.t 75)⟩])
     .ret)))), none⟩
def k27 : List (List Nat) := [[0, 3, 4], [0, 3, 4, 5]]
def o27 : List Nat := [1000028, 1000029, 1000035, 1000037, 1000038, 1000039, 1000041, 1000042, 1000044, 1000045, 1000048, 3000000, 6]
/-- slices.Sort[[]int,int] -/
def c28 : AFn := ⟨1, 0, [], .skip, some (.s xSort)⟩
def c29b0 : AC := (.seq
                  (.seq
                   (.reg [⟨some 29, none, .mov (.t 5)⟩,
                    ⟨some 30, none, .mov (.t 4)⟩,
                    ⟨some 31, none, .len (.t 30)⟩,
                    ⟨some 32, none, .bin .lss (.t 29) (.t 31)⟩])
                   (.cond (.t 32)
                    .skip
                    (.exit 2)))
                  (.seq
                   (.block 3
                    (.seq
                     (.reg [⟨some 35, none, .mov (.t 4)⟩,
                      ⟨some 36, none, .mov (.t 5)⟩,
                      ⟨some 37, none, .iaddr (.slice 1) (.t 35) (.t 36)⟩,
                      ⟨some 38, none, .load 1 false (.t 37)⟩,
                      ⟨some 39, none, .mov (.t 4)⟩,
                      ⟨some 40, none, .mov (.t 5)⟩,
                      ⟨some 41, none, .bin .sub (.t 40) (.c (.int .i64 1))⟩,
                      ⟨some 42, none, .iaddr (.slice 1) (.t 39) (.t 41)⟩,
                      ⟨some 43, none, .load 1 false (.t 42)⟩,
                      ⟨some 44, none, .bin .neq (.t 38) (.t 43)⟩])
                     (.cond (.t 44)
                      (.seq
                       (.reg [⟨some 45, none, .mov (.t 0)⟩,
                        ⟨some 46, none, .mov (.t 3)⟩,
                        ⟨some 47, none, .mov (.t 4)⟩,
                        ⟨some 48, none, .mov (.t 5)⟩,
                        ⟨some 49, none, .iaddr (.slice 1) (.t 47) (.t 48)⟩,
                        ⟨some 50, none, .load 1 false (.t 49)⟩,
                        ⟨some 51, none, .iaddr (.slice 1) (.t 45) (.t 46)⟩,
                        ⟨none, none, .store 1 (.t 51) (.t 50)⟩])
                       (.reg [⟨some 52, none, .mov (.t 3)⟩,
                        ⟨some 53, none, .bin .add (.t 52) (.c (.int .i64 1))⟩,
                        ⟨some 3, none, .mov (.t 53)⟩]))
                      .skip)))
                   (.reg [⟨some 33, none, .mov (.t 5)⟩,
                    ⟨some 34, none, .bin .add (.t 33) (.c (.int .i64 1))⟩,
                    ⟨some 5, none, .mov (.t 34)⟩])))
def c29b1 : AC := (.seq
        (.seq
         (.reg [⟨some 10, none, .mov (.t 3)⟩,
          ⟨some 11, none, .mov (.t 0)⟩,
          ⟨some 12, none, .len (.t 11)⟩,
          ⟨some 13, none, .bin .lss (.t 10) (.t 12)⟩])
         (.cond (.t 13)
          .skip
          (.exit 0)))
        (.seq
         (.block 1
          (.seq
           (.reg [⟨some 16, none, .mov (.t 0)⟩,
            ⟨some 17, none, .mov (.t 3)⟩,
            ⟨some 18, none, .iaddr (.slice 1) (.t 16) (.t 17)⟩,
            ⟨some 19, none, .load 1 false (.t 18)⟩,
            ⟨some 20, none, .mov (.t 0)⟩,
            ⟨some 21, none, .mov (.t 3)⟩,
            ⟨some 22, none, .bin .sub (.t 21) (.c (.int .i64 1))⟩,
            ⟨some 23, none, .iaddr (.slice 1) (.t 20) (.t 22)⟩,
            ⟨some 24, none, .load 1 false (.t 23)⟩,
            ⟨some 25, none, .bin .eql (.t 19) (.t 24)⟩])
           (.cond (.t 25)
            (.seq
             (.reg [⟨some 26, none, .mov (.t 0)⟩,
              ⟨some 27, none, .mov (.t 3)⟩,
              ⟨some 28, none, .slc (.slice 1) (.t 26) (some (.t 27)) none none⟩,
              ⟨some 4, none, .mov (.t 28)⟩])
             (.seq
              (.seq
               (.reg [⟨some 5, none, .mov (.c (.int .i64 1))⟩])
               (.block 2
                (.loop [0, 3, 4, 5]
                 c29b0)))
              (.seq
               (.reg [⟨some 54, none, .mov (.t 0)⟩,
                ⟨some 55, none, .mov (.t 3)⟩,
                ⟨some 56, none, .slc (.slice 1) (.t 54) (some (.t 55)) none none⟩,
                ⟨none, none, .clr 1 [(.int .i64 0)] (.t 56)⟩])
               (.seq
                (.reg [⟨some 57, none, .mov (.t 0)⟩,
                 ⟨some 58, none, .mov (.t 3)⟩,
                 ⟨some 59, none, .slc (.slice 1) (.t 57) none (some (.t 58)) none⟩,
                 ⟨some 2, none, .mov (.t 59)⟩])
                .ret))))
            .skip)))
         (.reg [⟨some 14, none, .mov (.t 3)⟩,
          ⟨some 15, none, .bin .add (.t 14) (.c (.int .i64 1))⟩,
          ⟨some 3, none, .mov (.t 15)⟩])))
/-- slices.Compact[[]int,int] -/
def c29 : AFn := ⟨1, 61, [.t 2],
 (.seq
  (.reg [⟨some 2, none, .nilv 1⟩])
  (.seq
   (.seq
    (.reg [⟨some 6, none, .mov (.t 0)⟩,
     ⟨some 7, none, .len (.t 6)⟩,
     ⟨some 8, none, .bin .lss (.t 7) (.c (.int .i64 2))⟩])
    (.cond (.t 8)
     (.seq
      (.reg [⟨some 9, none, .mov (.t 0)⟩,
       ⟨some 2, none, .mov (.t 9)⟩])
      .ret)
     .skip))
   (.seq
    (.seq
     (.reg [⟨some 3, none, .mov (.c (.int .i64 1))⟩])
     (.block 0
      (.loop [0, 3]
       c29b1)))
    (.seq
     (.reg [⟨some 60, none, .mov (.t 0)⟩,
      ⟨some 2, none, .mov (.t 60)⟩])
     .ret)))), none⟩
def k29 : List (List Nat) := [[0, 3], [0, 3, 4, 5]]
def o29 : List Nat := [1000028, 1000029, 1000035, 1000037, 1000038, 1000039, 1000041, 1000042, 1000044, 1000045, 1000048, 3000000]
def c30b0 : AC := (.seq
       (.seq
        (.reg [⟨some 7, none, .mov (.t 5)⟩,
         ⟨some 8, none, .mov (.t 0)⟩,
         ⟨some 9, none, .len (.t 8)⟩,
         ⟨some 10, none, .bin .lss (.t 7) (.t 9)⟩,
         ⟨some 11, none, .mov (.t 10)⟩,
         ⟨some 12, some (11, true), .mov (.t 0)⟩,
         ⟨some 13, some (11, true), .mov (.t 5)⟩,
         ⟨some 14, some (11, true), .iaddr (.slice 1) (.t 12) (.t 13)⟩,
         ⟨some 15, some (11, true), .load 1 false (.t 14)⟩,
         ⟨some 16, some (11, true), .mov (.t 1)⟩,
         ⟨some 17, some (11, true), .bin .lss (.t 15) (.t 16)⟩,
         ⟨some 18, none, .pick (.t 11) (.t 17) (.c (.bool false))⟩])
        (.cond (.t 18)
         .skip
         (.exit 0)))
       (.block 1
        (.reg [⟨some 19, none, .mov (.t 5)⟩,
         ⟨some 20, none, .bin .add (.t 19) (.c (.int .i64 1))⟩,
         ⟨some 5, none, .mov (.t 20)⟩])))
/-- tracebook/tracebookref14.put -/
def c30 : AFn := ⟨2, 48, [.t 4],
 (.seq
  (.reg [⟨some 4, none, .nilv 1⟩])
  (.seq
   (.reg [⟨some 5, none, .mov (.c (.int .i64 0))⟩])
   (.seq
    (.block 0
     (.loop [0, 1, 5]
      c30b0))
    (.seq
     (.seq
      (.reg [⟨some 21, none, .mov (.t 5)⟩,
       ⟨some 22, none, .mov (.t 0)⟩,
       ⟨some 23, none, .len (.t 22)⟩,
       ⟨some 24, none, .bin .lss (.t 21) (.t 23)⟩,
       ⟨some 25, none, .mov (.t 24)⟩,
       ⟨some 26, some (25, true), .mov (.t 0)⟩,
       ⟨some 27, some (25, true), .mov (.t 5)⟩,
       ⟨some 28, some (25, true), .iaddr (.slice 1) (.t 26) (.t 27)⟩,
       ⟨some 29, some (25, true), .load 1 false (.t 28)⟩,
       ⟨some 30, some (25, true), .mov (.t 1)⟩,
       ⟨some 31, some (25, true), .bin .eql (.t 29) (.t 30)⟩,
       ⟨some 32, none, .pick (.t 25) (.t 31) (.c (.bool false))⟩])
      (.cond (.t 32)
       (.seq
        (.reg [⟨some 33, none, .mov (.t 0)⟩,
         ⟨some 4, none, .mov (.t 33)⟩])
        .ret)
       .skip))
     (.seq
      (.reg [⟨some 34, none, .bslice true 1 [(.int .i64 0)] 0 []⟩,
       ⟨some 35, none, .mov (.t 0)⟩,
       ⟨some 36, none, .mov (.t 5)⟩,
       ⟨some 37, none, .slc (.slice 1) (.t 35) none (some (.t 36)) none⟩,
       ⟨some 38, none, .append 1 8 (.t 34) (.t 37)⟩,
       ⟨some 6, none, .mov (.t 38)⟩])
      (.seq
       (.reg [⟨some 39, none, .mov (.t 6)⟩,
        ⟨some 40, none, .mov (.t 1)⟩,
        ⟨some 41, none, .bslice false 1 [(.int .i64 0)] 1 [(0, (.t 40))]⟩,
        ⟨some 42, none, .append 1 8 (.t 39) (.t 41)⟩,
        ⟨some 6, none, .mov (.t 42)⟩])
       (.seq
        (.reg [⟨some 43, none, .mov (.t 6)⟩,
         ⟨some 44, none, .mov (.t 0)⟩,
         ⟨some 45, none, .mov (.t 5)⟩,
         ⟨some 46, none, .slc (.slice 1) (.t 44) (some (.t 45)) none none⟩,
         ⟨some 47, none, .append 1 8 (.t 43) (.t 46)⟩,
         ⟨some 4, none, .mov (.t 47)⟩])
        .ret))))))), none⟩
def k30 : List (List Nat) := [[0, 1, 5]]
def o30 : List Nat := [1000028, 1000029, 1000035, 1000037, 1000038, 1000039, 1000041, 1000042, 1000044, 1000045, 1000048, 3000000, 34]
def c31b0 : AC := (.seq
       (.reg [⟨some 9, none, .bin .lss (.t 8) (.t 7)⟩])
       (.seq
        (.cond (.t 9)
         .skip
         (.exit 0))
        (.seq
         (.block 1
          (.seq
           (.reg [⟨some 10, none, .mov (.t 8)⟩,
            ⟨some 5, none, .mov (.t 10)⟩])
           (.seq
            (.reg [⟨some 11, none, .mov (.t 1)⟩,
             ⟨some 12, none, .mov (.t 0)⟩,
             ⟨some 13, none, .mov (.t 5)⟩,
             ⟨some 14, none, .iaddr (.slice 2) (.t 12) (.t 13)⟩,
             ⟨some 15, none, .load 2 true (.t 14)⟩,
             ⟨some 16, none, .calld false (.t 11) [(.t 15)]⟩])
            (.cond (.t 16)
             (.seq
              (.reg [⟨some 17, none, .mov (.t 5)⟩,
               ⟨some 4, none, .mov (.t 17)⟩])
              .ret)
             .skip))))
         (.reg [⟨some 18, none, .bin .add (.t 8) (.c (.int .i64 1))⟩,
          ⟨some 8, none, .mov (.t 18)⟩]))))
/-- slices.IndexFunc[[]tracebook/api.Domain,tracebook/api.Domain] -/
def c31 : AFn := ⟨2, 19, [.t 4],
 (.seq
  (.reg [⟨some 4, none, .mov (.c (.int .i64 0))⟩])
  (.seq
   (.seq
    (.reg [⟨some 6, none, .mov (.t 0)⟩,
     ⟨some 7, none, .len (.t 6)⟩,
     ⟨some 8, none, .mov (.c (.int .i64 0))⟩])
    (.block 0
     (.loop [0, 1, 7, 8]
      c31b0)))
   (.seq
    (.reg [⟨some 4, none, .mov (.c (.int .i64 (-1)))⟩])
    .ret))), none⟩
def k31 : List (List Nat) := [[0, 1, 7, 8]]
def o31 : List Nat := [1000028, 1000029, 1000035, 1000037, 1000038, 1000039, 1000041, 1000042, 1000044, 1000045, 1000048, 3000000]
/-- tracebook/clock.find$1 -/
def c32 : AFn := ⟨2, 8, [.t 3],
 (.seq
  (.reg [⟨some 2, none, .box (.t 0)⟩,
   ⟨some 3, none, .mov (.c (.bool false))⟩])
  (.seq
   (.reg [⟨some 4, none, .faddr 0 (.t 2)⟩,
    ⟨some 5, none, .load 1 false (.t 4)⟩,
    ⟨some 6, none, .load 1 false (.t 1)⟩,
    ⟨some 7, none, .bin .eql (.t 5) (.t 6)⟩,
    ⟨some 3, none, .mov (.t 7)⟩])
   .ret)), none⟩
def k32 : List (List Nat) := []
def o32 : List Nat := [1000028, 1000029, 1000035, 1000037, 1000038, 1000039, 1000041, 1000042, 1000044, 1000045, 1000048, 3000000]
/-- tracebook/clock.isReading -/
def c33 : AFn := ⟨1, 9, [.t 2],
 (.seq
  (.reg [⟨some 2, none, .mov (.c (.bool false))⟩])
  (.seq
   (.reg [⟨some 3, none, .mov (.t 0)⟩,
    ⟨some 4, none, .bin .leq (.c (.int .i64 0)) (.t 3)⟩,
    ⟨some 5, none, .mov (.t 4)⟩,
    ⟨some 6, some (5, true), .mov (.t 0)⟩,
    ⟨some 7, some (5, true), .bin .leq (.t 6) (.c (.int .i64 1000000000000))⟩,
    ⟨some 8, none, .pick (.t 5) (.t 7) (.c (.bool false))⟩,
    ⟨some 2, none, .mov (.t 8)⟩])
   .ret)), none⟩
def k33 : List (List Nat) := []
def o33 : List Nat := [1000028, 1000029, 1000035, 1000037, 1000038, 1000039, 1000041, 1000042, 1000044, 1000045, 1000048, 3000000]
/-- tracebook/tracebookref14.reading -/
def c34 : AFn := ⟨1, 9, [.t 2],
 (.seq
  (.reg [⟨some 2, none, .mov (.c (.bool false))⟩])
  (.seq
   (.reg [⟨some 3, none, .mov (.t 0)⟩,
    ⟨some 4, none, .bin .geq (.t 3) (.c (.int .i64 0))⟩,
    ⟨some 5, none, .mov (.t 4)⟩,
    ⟨some 6, some (5, true), .mov (.t 0)⟩,
    ⟨some 7, some (5, true), .bin .leq (.t 6) (.c (.int .i64 1000000000000))⟩,
    ⟨some 8, none, .pick (.t 5) (.t 7) (.c (.bool false))⟩,
    ⟨some 2, none, .mov (.t 8)⟩])
   .ret)), none⟩
def k34 : List (List Nat) := []
def o34 : List Nat := [1000028, 1000029, 1000035, 1000037, 1000038, 1000039, 1000041, 1000042, 1000044, 1000045, 1000048, 3000000]
def c35b0 : AC := (.block 1
      (.seq
       (.reg [⟨some 19, none, .mov (.t 2)⟩,
        ⟨some 20, none, .mov (.t 1)⟩,
        ⟨some 21, none, .bin .sub (.t 19) (.t 20)⟩,
        ⟨some 10, none, .mov (.t 21)⟩])
       (.seq
        (.seq
         (.reg [⟨some 22, none, .mov (.t 10)⟩,
          ⟨some 23, none, .bin .leq (.t 22) (.c (.int .i64 12))⟩])
         (.cond (.t 23)
          (.seq
           (.reg [⟨some 24, none, .mov (.t 0)⟩,
            ⟨some 25, none, .mov (.t 1)⟩,
            ⟨some 26, none, .mov (.t 2)⟩,
            ⟨some 27, none, .callS 37 [(.t 24), (.t 25), (.t 26)]⟩])
           .ret)
          .skip))
        (.seq
         (.seq
          (.reg [⟨some 28, none, .mov (.t 3)⟩,
           ⟨some 29, none, .bin .eql (.t 28) (.c (.int .i64 0))⟩])
          (.cond (.t 29)
           (.seq
            (.reg [⟨some 30, none, .mov (.t 0)⟩,
             ⟨some 31, none, .mov (.t 1)⟩,
             ⟨some 32, none, .mov (.t 2)⟩,
             ⟨some 33, none, .callS 38 [(.t 30), (.t 31), (.t 32)]⟩])
            .ret)
           .skip))
         (.seq
          (.seq
           (.reg [⟨some 34, none, .mov (.t 8)⟩,
            ⟨some 35, none, .un .not (.t 34)⟩])
           (.cond (.t 35)
            (.seq
             (.reg [⟨some 36, none, .mov (.t 0)⟩,
              ⟨some 37, none, .mov (.t 1)⟩,
              ⟨some 38, none, .mov (.t 2)⟩,
              ⟨some 39, none, .callS 39 [(.t 36), (.t 37), (.t 38)]⟩])
             (.reg [⟨some 40, none, .mov (.t 3)⟩,
              ⟨some 41, none, .bin .sub (.t 40) (.c (.int .i64 1))⟩,
              ⟨some 3, none, .mov (.t 41)⟩]))
            .skip))
          (.seq
           (.reg [⟨some 43, none, .mov (.t 0)⟩,
            ⟨some 44, none, .mov (.t 1)⟩,
            ⟨some 45, none, .mov (.t 2)⟩,
            ⟨some 46, none, .call true 40 [(.t 43), (.t 44), (.t 45)]⟩,
            ⟨some 42, none, .mov (.t 46)⟩,
            ⟨some 47, none, .ext (.t 42) 0⟩,
            ⟨some 48, none, .ext (.t 42) 1⟩,
            ⟨some 11, none, .mov (.t 47)⟩,
            ⟨some 12, none, .mov (.t 48)⟩])
           (.seq
            (.seq
             (.reg [⟨some 49, none, .mov (.t 12)⟩,
              ⟨some 50, none, .bin .eql (.t 49) (.c (.int .i64 2))⟩])
             (.cond (.t 50)
              (.seq
               (.reg [⟨some 51, none, .mov (.t 0)⟩,
                ⟨some 52, none, .mov (.t 1)⟩,
                ⟨some 53, none, .mov (.t 2)⟩,
                ⟨some 54, none, .callS 41 [(.t 51), (.t 52), (.t 53)]⟩])
               (.seq
                (.reg [⟨some 55, none, .mov (.t 2)⟩,
                 ⟨some 56, none, .bin .sub (.t 55) (.c (.int .i64 1))⟩,
                 ⟨some 57, none, .mov (.t 11)⟩,
                 ⟨some 58, none, .mov (.t 1)⟩,
                 ⟨some 59, none, .bin .sub (.t 57) (.t 58)⟩,
                 ⟨some 60, none, .bin .sub (.t 56) (.t 59)⟩,
                 ⟨some 11, none, .mov (.t 60)⟩])
                (.reg [⟨some 12, none, .mov (.c (.int .i64 1))⟩])))
              .skip))
            (.seq
             (.seq
              (.reg [⟨some 61, none, .mov (.t 8)⟩,
               ⟨some 62, none, .mov (.t 61)⟩,
               ⟨some 63, some (62, true), .mov (.t 9)⟩,
               ⟨some 64, none, .pick (.t 62) (.t 63) (.c (.bool false))⟩,
               ⟨some 65, none, .mov (.t 64)⟩,
               ⟨some 66, some (65, true), .mov (.t 12)⟩,
               ⟨some 67, some (65, true), .bin .eql (.t 66) (.c (.int .i64 1))⟩,
               ⟨some 68, none, .pick (.t 65) (.t 67) (.c (.bool false))⟩])
              (.cond (.t 68)
               (.seq
                (.reg [⟨some 69, none, .mov (.t 0)⟩,
                 ⟨some 70, none, .mov (.t 1)⟩,
                 ⟨some 71, none, .mov (.t 2)⟩,
                 ⟨some 72, none, .callS 42 [(.t 69), (.t 70), (.t 71)]⟩])
                (.cond (.t 72)
                 .ret
                 .skip))
               .skip))
             (.seq
              (.seq
               (.reg [⟨some 73, none, .mov (.t 1)⟩,
                ⟨some 74, none, .bin .gtr (.t 73) (.c (.int .i64 0))⟩,
                ⟨some 75, none, .mov (.t 74)⟩,
                ⟨some 76, some (75, true), .mov (.t 0)⟩,
                ⟨some 77, some (75, true), .mov (.t 1)⟩,
                ⟨some 78, some (75, true), .bin .sub (.t 77) (.c (.int .i64 1))⟩,
                ⟨some 79, some (75, true), .iaddr (.slice 1) (.t 76) (.t 78)⟩,
                ⟨some 80, some (75, true), .load 1 false (.t 79)⟩,
                ⟨some 81, some (75, true), .mov (.t 0)⟩,
                ⟨some 82, some (75, true), .mov (.t 11)⟩,
                ⟨some 83, some (75, true), .iaddr (.slice 1) (.t 81) (.t 82)⟩,
                ⟨some 84, some (75, true), .load 1 false (.t 83)⟩,
                ⟨some 85, some (75, true), .call false 43 [(.t 80), (.t 84)]⟩,
                ⟨some 86, some (75, true), .un .not (.t 85)⟩,
                ⟨some 87, none, .pick (.t 75) (.t 86) (.c (.bool false))⟩])
               (.cond (.t 87)
                (.seq
                 (.reg [⟨some 88, none, .mov (.t 0)⟩,
                  ⟨some 89, none, .mov (.t 1)⟩,
                  ⟨some 90, none, .mov (.t 2)⟩,
                  ⟨some 91, none, .mov (.t 11)⟩,
                  ⟨some 92, none, .callS 44 [(.t 88), (.t 89), (.t 90), (.t 91)]⟩,
                  ⟨some 13, none, .mov (.t 92)⟩])
                 (.seq
                  (.reg [⟨some 93, none, .mov (.t 13)⟩,
                   ⟨some 1, none, .mov (.t 93)⟩])
                  (.exit 1)))
                .skip))
              (.seq
               (.reg [⟨some 95, none, .mov (.t 0)⟩,
                ⟨some 96, none, .mov (.t 1)⟩,
                ⟨some 97, none, .mov (.t 2)⟩,
                ⟨some 98, none, .mov (.t 11)⟩,
                ⟨some 99, none, .callS 45 [(.t 95), (.t 96), (.t 97), (.t 98)]⟩,
                ⟨some 94, none, .mov (.t 99)⟩,
                ⟨some 100, none, .ext (.t 94) 0⟩,
                ⟨some 101, none, .ext (.t 94) 1⟩,
                ⟨some 14, none, .mov (.t 100)⟩,
                ⟨some 15, none, .mov (.t 101)⟩])
               (.seq
                (.reg [⟨some 102, none, .mov (.t 15)⟩,
                 ⟨some 9, none, .mov (.t 102)⟩])
                (.seq
                 (.reg [⟨some 103, none, .mov (.t 14)⟩,
                  ⟨some 104, none, .mov (.t 1)⟩,
                  ⟨some 105, none, .bin .sub (.t 103) (.t 104)⟩,
                  ⟨some 106, none, .mov (.t 2)⟩,
                  ⟨some 107, none, .mov (.t 14)⟩,
                  ⟨some 108, none, .bin .sub (.t 106) (.t 107)⟩,
                  ⟨some 16, none, .mov (.t 105)⟩,
                  ⟨some 17, none, .mov (.t 108)⟩])
                 (.seq
                  (.reg [⟨some 109, none, .mov (.t 10)⟩,
                   ⟨some 110, none, .bin .quo (.t 109) (.c (.int .i64 8))⟩,
                   ⟨some 18, none, .mov (.t 110)⟩])
                  (.seq
                   (.reg [⟨some 111, none, .mov (.t 16)⟩,
                    ⟨some 112, none, .mov (.t 17)⟩,
                    ⟨some 113, none, .bin .lss (.t 111) (.t 112)⟩])
                   (.cond (.t 113)
                    (.seq
                     (.reg [⟨some 114, none, .mov (.t 16)⟩,
                      ⟨some 115, none, .mov (.t 18)⟩,
                      ⟨some 116, none, .bin .geq (.t 114) (.t 115)⟩,
                      ⟨some 8, none, .mov (.t 116)⟩])
                     (.seq
                      (.reg [⟨some 117, none, .mov (.t 0)⟩,
                       ⟨some 118, none, .mov (.t 1)⟩,
                       ⟨some 119, none, .mov (.t 14)⟩,
                       ⟨some 120, none, .mov (.t 3)⟩,
                       ⟨some 121, none, .callS 35 [(.t 117), (.t 118), (.t 119), (.t 120)]⟩])
                      (.reg [⟨some 122, none, .mov (.t 14)⟩,
                       ⟨some 123, none, .bin .add (.t 122) (.c (.int .i64 1))⟩,
                       ⟨some 1, none, .mov (.t 123)⟩])))
                    (.seq
                     (.reg [⟨some 124, none, .mov (.t 17)⟩,
                      ⟨some 125, none, .mov (.t 18)⟩,
                      ⟨some 126, none, .bin .geq (.t 124) (.t 125)⟩,
                      ⟨some 8, none, .mov (.t 126)⟩])
                     (.seq
                      (.reg [⟨some 127, none, .mov (.t 0)⟩,
                       ⟨some 128, none, .mov (.t 14)⟩,
                       ⟨some 129, none, .bin .add (.t 128) (.c (.int .i64 1))⟩,
                       ⟨some 130, none, .mov (.t 2)⟩,
                       ⟨some 131, none, .mov (.t 3)⟩,
                       ⟨some 132, none, .callS 35 [(.t 127), (.t 129), (.t 130), (.t 131)]⟩])
                      (.reg [⟨some 133, none, .mov (.t 14)⟩,
                       ⟨some 2, none, .mov (.t 133)⟩]))))))))))))))))))
/-- slices.pdqsortOrdered[int] -/
def c35 : AFn := ⟨4, 134, [],
 (.seq
  (.reg [⟨some 8, none, .mov (.c (.bool true))⟩])
  (.seq
   (.reg [⟨some 9, none, .mov (.c (.bool true))⟩])
   (.block 0
    (.loop [0, 1, 2, 3, 8, 9]
     c35b0)))), none⟩
def k35 : List (List Nat) := [[0, 1, 2, 3, 8, 9]]
def o35 : List Nat := [1000028, 1000029, 1000035, 1000037, 1000038, 1000039, 1000041, 1000042, 1000044, 1000045, 1000048, 3000000, 46]
/-- math/bits.Len -/
def c36 : AFn := ⟨1, 8, [.t 2],
 (.seq
  (.reg [⟨some 2, none, .mov (.c (.int .i64 0))⟩])
  (.seq
   (.cond (.c (.bool false))
    (.seq
     (.reg [⟨some 3, none, .mov (.t 0)⟩,
      ⟨some 4, none, .conv (.int .u32) (.t 3)⟩,
      ⟨some 5, none, .call false 46 [(.t 4)]⟩,
      ⟨some 2, none, .mov (.t 5)⟩])
     .ret)
    .skip)
   (.seq
    (.reg [⟨some 6, none, .mov (.t 0)⟩,
     ⟨some 7, none, .call false 47 [(.t 6)]⟩,
     ⟨some 2, none, .mov (.t 7)⟩])
    .ret))), none⟩
def k36 : List (List Nat) := []
def o36 : List Nat := [1000028, 1000029, 1000035, 1000037, 1000038, 1000039, 1000041, 1000042, 1000044, 1000045, 1000048, 3000000]
def c37b0 : AC := (.seq
           (.seq
            (.reg [⟨some 16, none, .mov (.t 7)⟩,
             ⟨some 17, none, .mov (.t 1)⟩,
             ⟨some 18, none, .bin .gtr (.t 16) (.t 17)⟩,
             ⟨some 19, none, .mov (.t 18)⟩,
             ⟨some 20, some (19, true), .mov (.t 0)⟩,
             ⟨some 21, some (19, true), .mov (.t 7)⟩,
             ⟨some 22, some (19, true), .iaddr (.slice 1) (.t 20) (.t 21)⟩,
             ⟨some 23, some (19, true), .load 1 false (.t 22)⟩,
             ⟨some 24, some (19, true), .mov (.t 0)⟩,
             ⟨some 25, some (19, true), .mov (.t 7)⟩,
             ⟨some 26, some (19, true), .bin .sub (.t 25) (.c (.int .i64 1))⟩,
             ⟨some 27, some (19, true), .iaddr (.slice 1) (.t 24) (.t 26)⟩,
             ⟨some 28, some (19, true), .load 1 false (.t 27)⟩,
             ⟨some 29, some (19, true), .call false 43 [(.t 23), (.t 28)]⟩,
             ⟨some 30, none, .pick (.t 19) (.t 29) (.c (.bool false))⟩])
            (.cond (.t 30)
             .skip
             (.exit 2)))
           (.seq
            (.block 3
             (.reg [⟨some 33, none, .mov (.t 0)⟩,
              ⟨some 34, none, .mov (.t 7)⟩,
              ⟨some 35, none, .mov (.t 0)⟩,
              ⟨some 36, none, .mov (.t 7)⟩,
              ⟨some 37, none, .bin .sub (.t 36) (.c (.int .i64 1))⟩,
              ⟨some 38, none, .mov (.t 0)⟩,
              ⟨some 39, none, .mov (.t 7)⟩,
              ⟨some 40, none, .bin .sub (.t 39) (.c (.int .i64 1))⟩,
              ⟨some 41, none, .iaddr (.slice 1) (.t 38) (.t 40)⟩,
              ⟨some 42, none, .load 1 false (.t 41)⟩,
              ⟨some 43, none, .mov (.t 0)⟩,
              ⟨some 44, none, .mov (.t 7)⟩,
              ⟨some 45, none, .iaddr (.slice 1) (.t 43) (.t 44)⟩,
              ⟨some 46, none, .load 1 false (.t 45)⟩,
              ⟨some 47, none, .iaddr (.slice 1) (.t 33) (.t 34)⟩,
              ⟨none, none, .store 1 (.t 47) (.t 42)⟩,
              ⟨some 48, none, .iaddr (.slice 1) (.t 35) (.t 37)⟩,
              ⟨none, none, .store 1 (.t 48) (.t 46)⟩]))
            (.reg [⟨some 31, none, .mov (.t 7)⟩,
             ⟨some 32, none, .bin .sub (.t 31) (.c (.int .i64 1))⟩,
             ⟨some 7, none, .mov (.t 32)⟩])))
def c37b1 : AC := (.seq
     (.seq
      (.reg [⟨some 10, none, .mov (.t 6)⟩,
       ⟨some 11, none, .mov (.t 2)⟩,
       ⟨some 12, none, .bin .lss (.t 10) (.t 11)⟩])
      (.cond (.t 12)
       .skip
       (.exit 0)))
     (.seq
      (.block 1
       (.seq
        (.reg [⟨some 15, none, .mov (.t 6)⟩,
         ⟨some 7, none, .mov (.t 15)⟩])
        (.block 2
         (.loop [0, 1, 2, 6, 7]
          c37b0))))
      (.reg [⟨some 13, none, .mov (.t 6)⟩,
       ⟨some 14, none, .bin .add (.t 13) (.c (.int .i64 1))⟩,
       ⟨some 6, none, .mov (.t 14)⟩])))
/-- slices.insertionSortOrdered[int] -/
def c37 : AFn := ⟨3, 49, [],
 (.seq
  (.reg [⟨some 8, none, .mov (.t 1)⟩,
   ⟨some 9, none, .bin .add (.t 8) (.c (.int .i64 1))⟩,
   ⟨some 6, none, .mov (.t 9)⟩])
  (.block 0
   (.loop [0, 1, 2, 6]
    c37b1))), none⟩
def k37 : List (List Nat) := [[0, 1, 2, 6], [0, 1, 2, 6, 7]]
def o37 : List Nat := [1000028, 1000029, 1000035, 1000037, 1000038, 1000039, 1000041, 1000042, 1000044, 1000045, 1000048, 3000000]
def c38b0 : AC := (.seq
         (.seq
          (.reg [⟨some 29, none, .mov (.t 10)⟩,
           ⟨some 30, none, .bin .geq (.t 29) (.c (.int .i64 0))⟩])
          (.cond (.t 30)
           .skip
           (.exit 2)))
         (.seq
          (.block 3
           (.seq
            (.reg [⟨some 33, none, .mov (.t 0)⟩,
             ⟨some 34, none, .mov (.t 6)⟩,
             ⟨some 35, none, .mov (.t 0)⟩,
             ⟨some 36, none, .mov (.t 6)⟩,
             ⟨some 37, none, .mov (.t 10)⟩,
             ⟨some 38, none, .bin .add (.t 36) (.t 37)⟩,
             ⟨some 39, none, .mov (.t 0)⟩,
             ⟨some 40, none, .mov (.t 6)⟩,
             ⟨some 41, none, .mov (.t 10)⟩,
             ⟨some 42, none, .bin .add (.t 40) (.t 41)⟩,
             ⟨some 43, none, .iaddr (.slice 1) (.t 39) (.t 42)⟩,
             ⟨some 44, none, .load 1 false (.t 43)⟩,
             ⟨some 45, none, .mov (.t 0)⟩,
             ⟨some 46, none, .mov (.t 6)⟩,
             ⟨some 47, none, .iaddr (.slice 1) (.t 45) (.t 46)⟩,
             ⟨some 48, none, .load 1 false (.t 47)⟩,
             ⟨some 49, none, .iaddr (.slice 1) (.t 33) (.t 34)⟩,
             ⟨none, none, .store 1 (.t 49) (.t 44)⟩,
             ⟨some 50, none, .iaddr (.slice 1) (.t 35) (.t 38)⟩,
             ⟨none, none, .store 1 (.t 50) (.t 48)⟩])
            (.reg [⟨some 51, none, .mov (.t 0)⟩,
             ⟨some 52, none, .mov (.t 7)⟩,
             ⟨some 53, none, .mov (.t 10)⟩,
             ⟨some 54, none, .mov (.t 6)⟩,
             ⟨some 55, none, .callS 48 [(.t 51), (.t 52), (.t 53), (.t 54)]⟩])))
          (.reg [⟨some 31, none, .mov (.t 10)⟩,
           ⟨some 32, none, .bin .sub (.t 31) (.c (.int .i64 1))⟩,
           ⟨some 10, none, .mov (.t 32)⟩])))
def c38b1 : AC := (.seq
         (.seq
          (.reg [⟨some 18, none, .mov (.t 9)⟩,
           ⟨some 19, none, .bin .geq (.t 18) (.c (.int .i64 0))⟩])
          (.cond (.t 19)
           .skip
           (.exit 0)))
         (.seq
          (.block 1
           (.reg [⟨some 22, none, .mov (.t 0)⟩,
            ⟨some 23, none, .mov (.t 9)⟩,
            ⟨some 24, none, .mov (.t 8)⟩,
            ⟨some 25, none, .mov (.t 6)⟩,
            ⟨some 26, none, .callS 48 [(.t 22), (.t 23), (.t 24), (.t 25)]⟩]))
          (.reg [⟨some 20, none, .mov (.t 9)⟩,
           ⟨some 21, none, .bin .sub (.t 20) (.c (.int .i64 1))⟩,
           ⟨some 9, none, .mov (.t 21)⟩])))
def c38r0 : AC := (.seq
      (.reg [⟨some 27, none, .mov (.t 8)⟩,
       ⟨some 28, none, .bin .sub (.t 27) (.c (.int .i64 1))⟩,
       ⟨some 10, none, .mov (.t 28)⟩])
      (.block 2
       (.loop [0, 6, 7, 10]
        c38b0)))
/-- slices.heapSortOrdered[int] -/
def c38 : AFn := ⟨3, 56, [],
 (.seq
  (.reg [⟨some 11, none, .mov (.t 1)⟩,
   ⟨some 6, none, .mov (.t 11)⟩])
  (.seq
   (.reg [⟨some 7, none, .mov (.c (.int .i64 0))⟩])
   (.seq
    (.reg [⟨some 12, none, .mov (.t 2)⟩,
     ⟨some 13, none, .mov (.t 1)⟩,
     ⟨some 14, none, .bin .sub (.t 12) (.t 13)⟩,
     ⟨some 8, none, .mov (.t 14)⟩])
    (.seq
     (.seq
      (.reg [⟨some 15, none, .mov (.t 8)⟩,
       ⟨some 16, none, .bin .sub (.t 15) (.c (.int .i64 1))⟩,
       ⟨some 17, none, .bin .quo (.t 16) (.c (.int .i64 2))⟩,
       ⟨some 9, none, .mov (.t 17)⟩])
      (.block 0
       (.loop [0, 6, 7, 8, 9]
        c38b1)))
     c38r0)))), none⟩
def k38 : List (List Nat) := [[0, 6, 7, 8, 9], [0, 6, 7, 10]]
def o38 : List Nat := [1000028, 1000029, 1000035, 1000037, 1000038, 1000039, 1000041, 1000042, 1000044, 1000045, 1000048, 3000000]
def c39b0 : AC := (.seq
          (.seq
           (.reg [⟨some 26, none, .mov (.t 9)⟩,
            ⟨some 27, none, .mov (.t 1)⟩,
            ⟨some 28, none, .mov (.t 6)⟩,
            ⟨some 29, none, .bin .quo (.t 28) (.c (.int .i64 4))⟩,
            ⟨some 30, none, .bin .mul (.t 29) (.c (.int .i64 2))⟩,
            ⟨some 31, none, .bin .add (.t 27) (.t 30)⟩,
            ⟨some 32, none, .bin .add (.t 31) (.c (.int .i64 1))⟩,
            ⟨some 33, none, .bin .leq (.t 26) (.t 32)⟩])
           (.cond (.t 33)
            .skip
            (.exit 0)))
          (.seq
           (.block 1
            (.seq
             (.reg [⟨some 36, none, .call false 50 [(.t 7)]⟩,
              ⟨some 37, none, .mov (.t 8)⟩,
              ⟨some 38, none, .bin .sub (.t 37) (.c (.int .u64 1))⟩,
              ⟨some 39, none, .bin .and (.t 36) (.t 38)⟩,
              ⟨some 40, none, .conv (.int .i64) (.t 39)⟩,
              ⟨some 10, none, .mov (.t 40)⟩])
             (.seq
              (.seq
               (.reg [⟨some 41, none, .mov (.t 10)⟩,
                ⟨some 42, none, .mov (.t 6)⟩,
                ⟨some 43, none, .bin .geq (.t 41) (.t 42)⟩])
               (.cond (.t 43)
                (.reg [⟨some 44, none, .mov (.t 10)⟩,
                 ⟨some 45, none, .mov (.t 6)⟩,
                 ⟨some 46, none, .bin .sub (.t 44) (.t 45)⟩,
                 ⟨some 10, none, .mov (.t 46)⟩])
                .skip))
              (.reg [⟨some 47, none, .mov (.t 0)⟩,
               ⟨some 48, none, .mov (.t 9)⟩,
               ⟨some 49, none, .mov (.t 0)⟩,
               ⟨some 50, none, .mov (.t 1)⟩,
               ⟨some 51, none, .mov (.t 10)⟩,
               ⟨some 52, none, .bin .add (.t 50) (.t 51)⟩,
               ⟨some 53, none, .mov (.t 0)⟩,
               ⟨some 54, none, .mov (.t 1)⟩,
               ⟨some 55, none, .mov (.t 10)⟩,
               ⟨some 56, none, .bin .add (.t 54) (.t 55)⟩,
               ⟨some 57, none, .iaddr (.slice 1) (.t 53) (.t 56)⟩,
               ⟨some 58, none, .load 1 false (.t 57)⟩,
               ⟨some 59, none, .mov (.t 0)⟩,
               ⟨some 60, none, .mov (.t 9)⟩,
               ⟨some 61, none, .iaddr (.slice 1) (.t 59) (.t 60)⟩,
               ⟨some 62, none, .load 1 false (.t 61)⟩,
               ⟨some 63, none, .iaddr (.slice 1) (.t 47) (.t 48)⟩,
               ⟨none, none, .store 1 (.t 63) (.t 58)⟩,
               ⟨some 64, none, .iaddr (.slice 1) (.t 49) (.t 52)⟩,
               ⟨none, none, .store 1 (.t 64) (.t 62)⟩]))))
           (.reg [⟨some 34, none, .mov (.t 9)⟩,
            ⟨some 35, none, .bin .add (.t 34) (.c (.int .i64 1))⟩,
            ⟨some 9, none, .mov (.t 35)⟩])))
/-- slices.breakPatternsOrdered[int] -/
def c39 : AFn := ⟨3, 65, [],
 (.seq
  (.reg [⟨some 11, none, .mov (.t 2)⟩,
   ⟨some 12, none, .mov (.t 1)⟩,
   ⟨some 13, none, .bin .sub (.t 11) (.t 12)⟩,
   ⟨some 6, none, .mov (.t 13)⟩])
  (.seq
   (.reg [⟨some 14, none, .mov (.t 6)⟩,
    ⟨some 15, none, .bin .geq (.t 14) (.c (.int .i64 8))⟩])
   (.cond (.t 15)
    (.seq
     (.reg [⟨some 16, none, .mov (.t 6)⟩,
      ⟨some 17, none, .conv (.int .u64) (.t 16)⟩,
      ⟨some 7, none, .alloc [(.int .u64 0)]⟩,
      ⟨none, none, .store 1 (.t 7) (.t 17)⟩])
     (.seq
      (.reg [⟨some 18, none, .mov (.t 6)⟩,
       ⟨some 19, none, .call false 49 [(.t 18)]⟩,
       ⟨some 8, none, .mov (.t 19)⟩])
      (.seq
       (.reg [⟨some 20, none, .mov (.t 1)⟩,
        ⟨some 21, none, .mov (.t 6)⟩,
        ⟨some 22, none, .bin .quo (.t 21) (.c (.int .i64 4))⟩,
        ⟨some 23, none, .bin .mul (.t 22) (.c (.int .i64 2))⟩,
        ⟨some 24, none, .bin .add (.t 20) (.t 23)⟩,
        ⟨some 25, none, .bin .sub (.t 24) (.c (.int .i64 1))⟩,
        ⟨some 9, none, .mov (.t 25)⟩])
       (.block 0
        (.loop [0, 1, 6, 7, 8, 9]
         c39b0)))))
    .skip))), none⟩
def k39 : List (List Nat) := [[0, 1, 6, 7, 8, 9]]
def o39 : List Nat := [1000028, 1000029, 1000035, 1000037, 1000038, 1000039, 1000041, 1000042, 1000044, 1000045, 1000048, 3000000]
/-- slices.choosePivotOrdered[int] -/
def c40 : AFn := ⟨3, 57, [.t 6, .t 7],
 (.seq
  (.reg [⟨some 6, none, .mov (.c (.int .i64 0))⟩,
   ⟨some 7, none, .mov (.c (.int .i64 0))⟩])
  (.seq
   (.reg [⟨some 13, none, .mov (.t 2)⟩,
    ⟨some 14, none, .mov (.t 1)⟩,
    ⟨some 15, none, .bin .sub (.t 13) (.t 14)⟩,
    ⟨some 8, none, .mov (.t 15)⟩])
   (.seq
    (.reg [⟨some 9, none, .alloc [(.int .i64 0)]⟩])
    (.seq
     (.reg [⟨some 16, none, .mov (.t 1)⟩,
      ⟨some 17, none, .mov (.t 8)⟩,
      ⟨some 18, none, .bin .quo (.t 17) (.c (.int .i64 4))⟩,
      ⟨some 19, none, .bin .mul (.t 18) (.c (.int .i64 1))⟩,
      ⟨some 20, none, .bin .add (.t 16) (.t 19)⟩,
      ⟨some 10, none, .mov (.t 20)⟩])
     (.seq
      (.reg [⟨some 21, none, .mov (.t 1)⟩,
       ⟨some 22, none, .mov (.t 8)⟩,
       ⟨some 23, none, .bin .quo (.t 22) (.c (.int .i64 4))⟩,
       ⟨some 24, none, .bin .mul (.t 23) (.c (.int .i64 2))⟩,
       ⟨some 25, none, .bin .add (.t 21) (.t 24)⟩,
       ⟨some 11, none, .mov (.t 25)⟩])
      (.seq
       (.reg [⟨some 26, none, .mov (.t 1)⟩,
        ⟨some 27, none, .mov (.t 8)⟩,
        ⟨some 28, none, .bin .quo (.t 27) (.c (.int .i64 4))⟩,
        ⟨some 29, none, .bin .mul (.t 28) (.c (.int .i64 3))⟩,
        ⟨some 30, none, .bin .add (.t 26) (.t 29)⟩,
        ⟨some 12, none, .mov (.t 30)⟩])
       (.seq
        (.seq
         (.reg [⟨some 31, none, .mov (.t 8)⟩,
          ⟨some 32, none, .bin .geq (.t 31) (.c (.int .i64 8))⟩])
         (.cond (.t 32)
          (.seq
           (.seq
            (.reg [⟨some 33, none, .mov (.t 8)⟩,
             ⟨some 34, none, .bin .geq (.t 33) (.c (.int .i64 50))⟩])
            (.cond (.t 34)
             (.seq
              (.reg [⟨some 35, none, .mov (.t 0)⟩,
               ⟨some 36, none, .mov (.t 10)⟩,
               ⟨some 37, none, .call false 51 [(.t 35), (.t 36), (.t 9)]⟩,
               ⟨some 10, none, .mov (.t 37)⟩])
              (.seq
               (.reg [⟨some 38, none, .mov (.t 0)⟩,
                ⟨some 39, none, .mov (.t 11)⟩,
                ⟨some 40, none, .call false 51 [(.t 38), (.t 39), (.t 9)]⟩,
                ⟨some 11, none, .mov (.t 40)⟩])
               (.reg [⟨some 41, none, .mov (.t 0)⟩,
                ⟨some 42, none, .mov (.t 12)⟩,
                ⟨some 43, none, .call false 51 [(.t 41), (.t 42), (.t 9)]⟩,
                ⟨some 12, none, .mov (.t 43)⟩])))
             .skip))
           (.reg [⟨some 44, none, .mov (.t 0)⟩,
            ⟨some 45, none, .mov (.t 10)⟩,
            ⟨some 46, none, .mov (.t 11)⟩,
            ⟨some 47, none, .mov (.t 12)⟩,
            ⟨some 48, none, .call false 52 [(.t 44), (.t 45), (.t 46), (.t 47), (.t 9)]⟩,
            ⟨some 11, none, .mov (.t 48)⟩]))
          .skip))
        (.seq
         (.reg [⟨some 49, none, .load 1 false (.t 9)⟩])
         (.block 0
          (.seq
           (.reg [⟨some 52, none, .bin .eql (.t 49) (.c (.int .i64 0))⟩,
            ⟨some 51, none, .mov (.t 52)⟩])
           (.cond (.t 51)
            (.seq
             (.reg [⟨some 53, none, .mov (.t 11)⟩,
              ⟨some 6, none, .mov (.t 53)⟩,
              ⟨some 7, none, .mov (.c (.int .i64 1))⟩])
             .ret)
            (.seq
             (.reg [⟨some 55, none, .bin .eql (.t 49) (.c (.int .i64 12))⟩,
              ⟨some 54, none, .mov (.t 55)⟩])
             (.cond (.t 54)
              (.seq
               (.reg [⟨some 56, none, .mov (.t 11)⟩,
                ⟨some 6, none, .mov (.t 56)⟩,
                ⟨some 7, none, .mov (.c (.int .i64 2))⟩])
               .ret)
              (.seq
               (.reg [⟨some 50, none, .mov (.t 11)⟩,
                ⟨some 6, none, .mov (.t 50)⟩,
                ⟨some 7, none, .mov (.c (.int .i64 0))⟩])
               .ret)))))))))))))), none⟩
def k40 : List (List Nat) := []
def o40 : List Nat := [1000028, 1000029, 1000035, 1000037, 1000038, 1000039, 1000041, 1000042, 1000044, 1000045, 1000048, 3000000]
def c41b0 : AC := (.seq
      (.seq
       (.reg [⟨some 11, none, .mov (.t 6)⟩,
        ⟨some 12, none, .mov (.t 7)⟩,
        ⟨some 13, none, .bin .lss (.t 11) (.t 12)⟩])
       (.cond (.t 13)
        .skip
        (.exit 0)))
      (.block 1
       (.seq
        (.reg [⟨some 14, none, .mov (.t 0)⟩,
         ⟨some 15, none, .mov (.t 6)⟩,
         ⟨some 16, none, .mov (.t 0)⟩,
         ⟨some 17, none, .mov (.t 7)⟩,
         ⟨some 18, none, .mov (.t 0)⟩,
         ⟨some 19, none, .mov (.t 7)⟩,
         ⟨some 20, none, .iaddr (.slice 1) (.t 18) (.t 19)⟩,
         ⟨some 21, none, .load 1 false (.t 20)⟩,
         ⟨some 22, none, .mov (.t 0)⟩,
         ⟨some 23, none, .mov (.t 6)⟩,
         ⟨some 24, none, .iaddr (.slice 1) (.t 22) (.t 23)⟩,
         ⟨some 25, none, .load 1 false (.t 24)⟩,
         ⟨some 26, none, .iaddr (.slice 1) (.t 14) (.t 15)⟩,
         ⟨none, none, .store 1 (.t 26) (.t 21)⟩,
         ⟨some 27, none, .iaddr (.slice 1) (.t 16) (.t 17)⟩,
         ⟨none, none, .store 1 (.t 27) (.t 25)⟩])
        (.seq
         (.reg [⟨some 28, none, .mov (.t 6)⟩,
          ⟨some 29, none, .bin .add (.t 28) (.c (.int .i64 1))⟩,
          ⟨some 6, none, .mov (.t 29)⟩])
         (.reg [⟨some 30, none, .mov (.t 7)⟩,
          ⟨some 31, none, .bin .sub (.t 30) (.c (.int .i64 1))⟩,
          ⟨some 7, none, .mov (.t 31)⟩])))))
/-- slices.reverseRangeOrdered[int] -/
def c41 : AFn := ⟨3, 32, [],
 (.seq
  (.reg [⟨some 8, none, .mov (.t 1)⟩,
   ⟨some 6, none, .mov (.t 8)⟩])
  (.seq
   (.reg [⟨some 9, none, .mov (.t 2)⟩,
    ⟨some 10, none, .bin .sub (.t 9) (.c (.int .i64 1))⟩,
    ⟨some 7, none, .mov (.t 10)⟩])
   (.block 0
    (.loop [0, 6, 7]
     c41b0)))), none⟩
def k41 : List (List Nat) := [[0, 6, 7]]
def o41 : List Nat := [1000028, 1000029, 1000035, 1000037, 1000038, 1000039, 1000041, 1000042, 1000044, 1000045, 1000048, 3000000]
def c42b0 : AC := (.seq
                     (.seq
                      (.reg [⟨some 101, none, .mov (.t 10)⟩,
                       ⟨some 102, none, .mov (.t 2)⟩,
                       ⟨some 103, none, .bin .lss (.t 101) (.t 102)⟩])
                      (.cond (.t 103)
                       .skip
                       (.exit 6)))
                     (.seq
                      (.block 7
                       (.seq
                        (.seq
                         (.reg [⟨some 106, none, .mov (.t 0)⟩,
                          ⟨some 107, none, .mov (.t 10)⟩,
                          ⟨some 108, none, .iaddr (.slice 1) (.t 106) (.t 107)⟩,
                          ⟨some 109, none, .load 1 false (.t 108)⟩,
                          ⟨some 110, none, .mov (.t 0)⟩,
                          ⟨some 111, none, .mov (.t 10)⟩,
                          ⟨some 112, none, .bin .sub (.t 111) (.c (.int .i64 1))⟩,
                          ⟨some 113, none, .iaddr (.slice 1) (.t 110) (.t 112)⟩,
                          ⟨some 114, none, .load 1 false (.t 113)⟩,
                          ⟨some 115, none, .call false 43 [(.t 109), (.t 114)]⟩,
                          ⟨some 116, none, .un .not (.t 115)⟩])
                         (.cond (.t 116)
                          (.exit 6)
                          .skip))
                        (.reg [⟨some 117, none, .mov (.t 0)⟩,
                         ⟨some 118, none, .mov (.t 10)⟩,
                         ⟨some 119, none, .mov (.t 0)⟩,
                         ⟨some 120, none, .mov (.t 10)⟩,
                         ⟨some 121, none, .bin .sub (.t 120) (.c (.int .i64 1))⟩,
                         ⟨some 122, none, .mov (.t 0)⟩,
                         ⟨some 123, none, .mov (.t 10)⟩,
                         ⟨some 124, none, .bin .sub (.t 123) (.c (.int .i64 1))⟩,
                         ⟨some 125, none, .iaddr (.slice 1) (.t 122) (.t 124)⟩,
                         ⟨some 126, none, .load 1 false (.t 125)⟩,
                         ⟨some 127, none, .mov (.t 0)⟩,
                         ⟨some 128, none, .mov (.t 10)⟩,
                         ⟨some 129, none, .iaddr (.slice 1) (.t 127) (.t 128)⟩,
                         ⟨some 130, none, .load 1 false (.t 129)⟩,
                         ⟨some 131, none, .iaddr (.slice 1) (.t 117) (.t 118)⟩,
                         ⟨none, none, .store 1 (.t 131) (.t 126)⟩,
                         ⟨some 132, none, .iaddr (.slice 1) (.t 119) (.t 121)⟩,
                         ⟨none, none, .store 1 (.t 132) (.t 130)⟩])))
                      (.reg [⟨some 104, none, .mov (.t 10)⟩,
                       ⟨some 105, none, .bin .add (.t 104) (.c (.int .i64 1))⟩,
                       ⟨some 10, none, .mov (.t 105)⟩])))
def c42b1 : AC := (.seq
                     (.seq
                      (.reg [⟨some 64, none, .mov (.t 9)⟩,
                       ⟨some 65, none, .bin .geq (.t 64) (.c (.int .i64 1))⟩])
                      (.cond (.t 65)
                       .skip
                       (.exit 4)))
                     (.seq
                      (.block 5
                       (.seq
                        (.seq
                         (.reg [⟨some 68, none, .mov (.t 0)⟩,
                          ⟨some 69, none, .mov (.t 9)⟩,
                          ⟨some 70, none, .iaddr (.slice 1) (.t 68) (.t 69)⟩,
                          ⟨some 71, none, .load 1 false (.t 70)⟩,
                          ⟨some 72, none, .mov (.t 0)⟩,
                          ⟨some 73, none, .mov (.t 9)⟩,
                          ⟨some 74, none, .bin .sub (.t 73) (.c (.int .i64 1))⟩,
                          ⟨some 75, none, .iaddr (.slice 1) (.t 72) (.t 74)⟩,
                          ⟨some 76, none, .load 1 false (.t 75)⟩,
                          ⟨some 77, none, .call false 43 [(.t 71), (.t 76)]⟩,
                          ⟨some 78, none, .un .not (.t 77)⟩])
                         (.cond (.t 78)
                          (.exit 4)
                          .skip))
                        (.reg [⟨some 79, none, .mov (.t 0)⟩,
                         ⟨some 80, none, .mov (.t 9)⟩,
                         ⟨some 81, none, .mov (.t 0)⟩,
                         ⟨some 82, none, .mov (.t 9)⟩,
                         ⟨some 83, none, .bin .sub (.t 82) (.c (.int .i64 1))⟩,
                         ⟨some 84, none, .mov (.t 0)⟩,
                         ⟨some 85, none, .mov (.t 9)⟩,
                         ⟨some 86, none, .bin .sub (.t 85) (.c (.int .i64 1))⟩,
                         ⟨some 87, none, .iaddr (.slice 1) (.t 84) (.t 86)⟩,
                         ⟨some 88, none, .load 1 false (.t 87)⟩,
                         ⟨some 89, none, .mov (.t 0)⟩,
                         ⟨some 90, none, .mov (.t 9)⟩,
                         ⟨some 91, none, .iaddr (.slice 1) (.t 89) (.t 90)⟩,
                         ⟨some 92, none, .load 1 false (.t 91)⟩,
                         ⟨some 93, none, .iaddr (.slice 1) (.t 79) (.t 80)⟩,
                         ⟨none, none, .store 1 (.t 93) (.t 88)⟩,
                         ⟨some 94, none, .iaddr (.slice 1) (.t 81) (.t 83)⟩,
                         ⟨none, none, .store 1 (.t 94) (.t 92)⟩])))
                      (.reg [⟨some 66, none, .mov (.t 9)⟩,
                       ⟨some 67, none, .bin .sub (.t 66) (.c (.int .i64 1))⟩,
                       ⟨some 9, none, .mov (.t 67)⟩])))
def c42b2 : AC := (.seq
              (.seq
               (.reg [⟨some 17, none, .mov (.t 7)⟩,
                ⟨some 18, none, .mov (.t 2)⟩,
                ⟨some 19, none, .bin .lss (.t 17) (.t 18)⟩,
                ⟨some 20, none, .mov (.t 19)⟩,
                ⟨some 21, some (20, true), .mov (.t 0)⟩,
                ⟨some 22, some (20, true), .mov (.t 7)⟩,
                ⟨some 23, some (20, true), .iaddr (.slice 1) (.t 21) (.t 22)⟩,
                ⟨some 24, some (20, true), .load 1 false (.t 23)⟩,
                ⟨some 25, some (20, true), .mov (.t 0)⟩,
                ⟨some 26, some (20, true), .mov (.t 7)⟩,
                ⟨some 27, some (20, true), .bin .sub (.t 26) (.c (.int .i64 1))⟩,
                ⟨some 28, some (20, true), .iaddr (.slice 1) (.t 25) (.t 27)⟩,
                ⟨some 29, some (20, true), .load 1 false (.t 28)⟩,
                ⟨some 30, some (20, true), .call false 43 [(.t 24), (.t 29)]⟩,
                ⟨some 31, some (20, true), .un .not (.t 30)⟩,
                ⟨some 32, none, .pick (.t 20) (.t 31) (.c (.bool false))⟩])
               (.cond (.t 32)
                .skip
                (.exit 2)))
              (.block 3
               (.reg [⟨some 33, none, .mov (.t 7)⟩,
                ⟨some 34, none, .bin .add (.t 33) (.c (.int .i64 1))⟩,
                ⟨some 7, none, .mov (.t 34)⟩])))
def c42r0 : AC := (.seq
                (.reg [⟨some 95, none, .mov (.t 2)⟩,
                 ⟨some 96, none, .mov (.t 7)⟩,
                 ⟨some 97, none, .bin .sub (.t 95) (.t 96)⟩,
                 ⟨some 98, none, .bin .geq (.t 97) (.c (.int .i64 2))⟩])
                (.cond (.t 98)
                 (.seq
                  (.reg [⟨some 99, none, .mov (.t 7)⟩,
                   ⟨some 100, none, .bin .add (.t 99) (.c (.int .i64 1))⟩,
                   ⟨some 10, none, .mov (.t 100)⟩])
                  (.block 6
                   (.loop [0, 1, 2, 7, 8, 10]
                    c42b0)))
                 .skip))
def c42r1 : AC := (.seq
            (.seq
             (.reg [⟨some 35, none, .mov (.t 7)⟩,
              ⟨some 36, none, .mov (.t 2)⟩,
              ⟨some 37, none, .bin .eql (.t 35) (.t 36)⟩])
             (.cond (.t 37)
              (.seq
               (.reg [⟨some 6, none, .mov (.c (.bool true))⟩])
               .ret)
              .skip))
            (.seq
             (.seq
              (.reg [⟨some 38, none, .mov (.t 2)⟩,
               ⟨some 39, none, .mov (.t 1)⟩,
               ⟨some 40, none, .bin .sub (.t 38) (.t 39)⟩,
               ⟨some 41, none, .bin .lss (.t 40) (.c (.int .i64 50))⟩])
              (.cond (.t 41)
               (.seq
                (.reg [⟨some 6, none, .mov (.c (.bool false))⟩])
                .ret)
               .skip))
             (.seq
              (.reg [⟨some 42, none, .mov (.t 0)⟩,
               ⟨some 43, none, .mov (.t 7)⟩,
               ⟨some 44, none, .mov (.t 0)⟩,
               ⟨some 45, none, .mov (.t 7)⟩,
               ⟨some 46, none, .bin .sub (.t 45) (.c (.int .i64 1))⟩,
               ⟨some 47, none, .mov (.t 0)⟩,
               ⟨some 48, none, .mov (.t 7)⟩,
               ⟨some 49, none, .bin .sub (.t 48) (.c (.int .i64 1))⟩,
               ⟨some 50, none, .iaddr (.slice 1) (.t 47) (.t 49)⟩,
               ⟨some 51, none, .load 1 false (.t 50)⟩,
               ⟨some 52, none, .mov (.t 0)⟩,
               ⟨some 53, none, .mov (.t 7)⟩,
               ⟨some 54, none, .iaddr (.slice 1) (.t 52) (.t 53)⟩,
               ⟨some 55, none, .load 1 false (.t 54)⟩,
               ⟨some 56, none, .iaddr (.slice 1) (.t 42) (.t 43)⟩,
               ⟨none, none, .store 1 (.t 56) (.t 51)⟩,
               ⟨some 57, none, .iaddr (.slice 1) (.t 44) (.t 46)⟩,
               ⟨none, none, .store 1 (.t 57) (.t 55)⟩])
              (.seq
               (.seq
                (.reg [⟨some 58, none, .mov (.t 7)⟩,
                 ⟨some 59, none, .mov (.t 1)⟩,
                 ⟨some 60, none, .bin .sub (.t 58) (.t 59)⟩,
                 ⟨some 61, none, .bin .geq (.t 60) (.c (.int .i64 2))⟩])
                (.cond (.t 61)
                 (.seq
                  (.reg [⟨some 62, none, .mov (.t 7)⟩,
                   ⟨some 63, none, .bin .sub (.t 62) (.c (.int .i64 1))⟩,
                   ⟨some 9, none, .mov (.t 63)⟩])
                  (.block 4
                   (.loop [0, 1, 2, 7, 8, 9]
                    c42b1)))
                 .skip))
               c42r0))))
def c42b3 : AC := (.seq
        (.seq
         (.reg [⟨some 13, none, .mov (.t 8)⟩,
          ⟨some 14, none, .bin .lss (.t 13) (.c (.int .i64 5))⟩])
         (.cond (.t 14)
          .skip
          (.exit 0)))
        (.seq
         (.block 1
          (.seq
           (.block 2
            (.loop [0, 1, 2, 7, 8]
             c42b2))
           c42r1))
         (.reg [⟨some 15, none, .mov (.t 8)⟩,
          ⟨some 16, none, .bin .add (.t 15) (.c (.int .i64 1))⟩,
          ⟨some 8, none, .mov (.t 16)⟩])))
/-- slices.partialInsertionSortOrdered[int] -/
def c42 : AFn := ⟨3, 133, [.t 6],
 (.seq
  (.reg [⟨some 6, none, .mov (.c (.bool false))⟩])
  (.seq
   (.reg [⟨some 11, none, .mov (.t 1)⟩,
    ⟨some 12, none, .bin .add (.t 11) (.c (.int .i64 1))⟩,
    ⟨some 7, none, .mov (.t 12)⟩])
   (.seq
    (.seq
     (.reg [⟨some 8, none, .mov (.c (.int .i64 0))⟩])
     (.block 0
      (.loop [0, 1, 2, 7, 8]
       c42b3)))
    (.seq
     (.reg [⟨some 6, none, .mov (.c (.bool false))⟩])
     .ret)))), none⟩
def k42 : List (List Nat) := [[0, 1, 2, 7, 8], [0, 1, 2, 7, 8], [0, 1, 2, 7, 8, 9], [0, 1, 2, 7, 8, 10]]
def o42 : List Nat := [1000028, 1000029, 1000035, 1000037, 1000038, 1000039, 1000041, 1000042, 1000044, 1000045, 1000048, 3000000]
/-- cmp.Less[int] -/
def c43 : AFn := ⟨2, 17, [.t 4],
 (.seq
  (.reg [⟨some 4, none, .mov (.c (.bool false))⟩])
  (.seq
   (.reg [⟨some 5, none, .mov (.t 0)⟩,
    ⟨some 6, none, .call false 53 [(.t 5)]⟩,
    ⟨some 7, none, .mov (.t 6)⟩,
    ⟨some 8, some (7, true), .mov (.t 1)⟩,
    ⟨some 9, some (7, true), .call false 53 [(.t 8)]⟩,
    ⟨some 10, some (7, true), .un .not (.t 9)⟩,
    ⟨some 11, none, .pick (.t 7) (.t 10) (.c (.bool false))⟩,
    ⟨some 12, none, .mov (.t 11)⟩,
    ⟨some 13, some (12, false), .mov (.t 0)⟩,
    ⟨some 14, some (12, false), .mov (.t 1)⟩,
    ⟨some 15, some (12, false), .bin .lss (.t 13) (.t 14)⟩,
    ⟨some 16, none, .pick (.t 12) (.c (.bool true)) (.t 15)⟩,
    ⟨some 4, none, .mov (.t 16)⟩])
   .ret)), none⟩
def k43 : List (List Nat) := []
def o43 : List Nat := [1000028, 1000029, 1000035, 1000037, 1000038, 1000039, 1000041, 1000042, 1000044, 1000045, 1000048, 3000000]
def c44b0 : AC := (.seq
             (.seq
              (.reg [⟨some 46, none, .mov (.t 9)⟩,
               ⟨some 47, none, .mov (.t 10)⟩,
               ⟨some 48, none, .bin .leq (.t 46) (.t 47)⟩,
               ⟨some 49, none, .mov (.t 48)⟩,
               ⟨some 50, some (49, true), .mov (.t 0)⟩,
               ⟨some 51, some (49, true), .mov (.t 1)⟩,
               ⟨some 52, some (49, true), .iaddr (.slice 1) (.t 50) (.t 51)⟩,
               ⟨some 53, some (49, true), .load 1 false (.t 52)⟩,
               ⟨some 54, some (49, true), .mov (.t 0)⟩,
               ⟨some 55, some (49, true), .mov (.t 10)⟩,
               ⟨some 56, some (49, true), .iaddr (.slice 1) (.t 54) (.t 55)⟩,
               ⟨some 57, some (49, true), .load 1 false (.t 56)⟩,
               ⟨some 58, some (49, true), .call false 43 [(.t 53), (.t 57)]⟩,
               ⟨some 59, none, .pick (.t 49) (.t 58) (.c (.bool false))⟩])
              (.cond (.t 59)
               .skip
               (.exit 4)))
             (.block 5
              (.reg [⟨some 60, none, .mov (.t 10)⟩,
               ⟨some 61, none, .bin .sub (.t 60) (.c (.int .i64 1))⟩,
               ⟨some 10, none, .mov (.t 61)⟩])))
def c44b1 : AC := (.seq
            (.seq
             (.reg [⟨some 29, none, .mov (.t 9)⟩,
              ⟨some 30, none, .mov (.t 10)⟩,
              ⟨some 31, none, .bin .leq (.t 29) (.t 30)⟩,
              ⟨some 32, none, .mov (.t 31)⟩,
              ⟨some 33, some (32, true), .mov (.t 0)⟩,
              ⟨some 34, some (32, true), .mov (.t 1)⟩,
              ⟨some 35, some (32, true), .iaddr (.slice 1) (.t 33) (.t 34)⟩,
              ⟨some 36, some (32, true), .load 1 false (.t 35)⟩,
              ⟨some 37, some (32, true), .mov (.t 0)⟩,
              ⟨some 38, some (32, true), .mov (.t 9)⟩,
              ⟨some 39, some (32, true), .iaddr (.slice 1) (.t 37) (.t 38)⟩,
              ⟨some 40, some (32, true), .load 1 false (.t 39)⟩,
              ⟨some 41, some (32, true), .call false 43 [(.t 36), (.t 40)]⟩,
              ⟨some 42, some (32, true), .un .not (.t 41)⟩,
              ⟨some 43, none, .pick (.t 32) (.t 42) (.c (.bool false))⟩])
             (.cond (.t 43)
              .skip
              (.exit 2)))
            (.block 3
             (.reg [⟨some 44, none, .mov (.t 9)⟩,
              ⟨some 45, none, .bin .add (.t 44) (.c (.int .i64 1))⟩,
              ⟨some 9, none, .mov (.t 45)⟩])))
def c44r0 : AC := (.seq
          (.block 4
           (.loop [0, 1, 9, 10]
            c44b0))
          (.seq
           (.seq
            (.reg [⟨some 62, none, .mov (.t 9)⟩,
             ⟨some 63, none, .mov (.t 10)⟩,
             ⟨some 64, none, .bin .gtr (.t 62) (.t 63)⟩])
            (.cond (.t 64)
             (.exit 0)
             .skip))
           (.seq
            (.reg [⟨some 65, none, .mov (.t 0)⟩,
             ⟨some 66, none, .mov (.t 9)⟩,
             ⟨some 67, none, .mov (.t 0)⟩,
             ⟨some 68, none, .mov (.t 10)⟩,
             ⟨some 69, none, .mov (.t 0)⟩,
             ⟨some 70, none, .mov (.t 10)⟩,
             ⟨some 71, none, .iaddr (.slice 1) (.t 69) (.t 70)⟩,
             ⟨some 72, none, .load 1 false (.t 71)⟩,
             ⟨some 73, none, .mov (.t 0)⟩,
             ⟨some 74, none, .mov (.t 9)⟩,
             ⟨some 75, none, .iaddr (.slice 1) (.t 73) (.t 74)⟩,
             ⟨some 76, none, .load 1 false (.t 75)⟩,
             ⟨some 77, none, .iaddr (.slice 1) (.t 65) (.t 66)⟩,
             ⟨none, none, .store 1 (.t 77) (.t 72)⟩,
             ⟨some 78, none, .iaddr (.slice 1) (.t 67) (.t 68)⟩,
             ⟨none, none, .store 1 (.t 78) (.t 76)⟩])
            (.seq
             (.reg [⟨some 79, none, .mov (.t 9)⟩,
              ⟨some 80, none, .bin .add (.t 79) (.c (.int .i64 1))⟩,
              ⟨some 9, none, .mov (.t 80)⟩])
             (.reg [⟨some 81, none, .mov (.t 10)⟩,
              ⟨some 82, none, .bin .sub (.t 81) (.c (.int .i64 1))⟩,
              ⟨some 10, none, .mov (.t 82)⟩])))))
def c44b2 : AC := (.block 1
        (.seq
         (.block 2
          (.loop [0, 1, 9, 10]
           c44b1))
         c44r0))
/-- slices.partitionEqualOrdered[int] -/
def c44 : AFn := ⟨4, 84, [.t 8],
 (.seq
  (.reg [⟨some 8, none, .mov (.c (.int .i64 0))⟩])
  (.seq
   (.reg [⟨some 11, none, .mov (.t 0)⟩,
    ⟨some 12, none, .mov (.t 1)⟩,
    ⟨some 13, none, .mov (.t 0)⟩,
    ⟨some 14, none, .mov (.t 3)⟩,
    ⟨some 15, none, .mov (.t 0)⟩,
    ⟨some 16, none, .mov (.t 3)⟩,
    ⟨some 17, none, .iaddr (.slice 1) (.t 15) (.t 16)⟩,
    ⟨some 18, none, .load 1 false (.t 17)⟩,
    ⟨some 19, none, .mov (.t 0)⟩,
    ⟨some 20, none, .mov (.t 1)⟩,
    ⟨some 21, none, .iaddr (.slice 1) (.t 19) (.t 20)⟩,
    ⟨some 22, none, .load 1 false (.t 21)⟩,
    ⟨some 23, none, .iaddr (.slice 1) (.t 11) (.t 12)⟩,
    ⟨none, none, .store 1 (.t 23) (.t 18)⟩,
    ⟨some 24, none, .iaddr (.slice 1) (.t 13) (.t 14)⟩,
    ⟨none, none, .store 1 (.t 24) (.t 22)⟩])
   (.seq
    (.reg [⟨some 25, none, .mov (.t 1)⟩,
     ⟨some 26, none, .bin .add (.t 25) (.c (.int .i64 1))⟩,
     ⟨some 27, none, .mov (.t 2)⟩,
     ⟨some 28, none, .bin .sub (.t 27) (.c (.int .i64 1))⟩,
     ⟨some 9, none, .mov (.t 26)⟩,
     ⟨some 10, none, .mov (.t 28)⟩])
    (.seq
     (.block 0
      (.loop [0, 1, 9, 10]
       c44b2))
     (.seq
      (.reg [⟨some 83, none, .mov (.t 9)⟩,
       ⟨some 8, none, .mov (.t 83)⟩])
      .ret))))), none⟩
def k44 : List (List Nat) := [[0, 1, 9, 10], [0, 1, 9, 10], [0, 1, 9, 10]]
def o44 : List Nat := [1000028, 1000029, 1000035, 1000037, 1000038, 1000039, 1000041, 1000042, 1000044, 1000045, 1000048, 3000000]
def c45b0 : AC := (.seq
                   (.seq
                    (.reg [⟨some 115, none, .mov (.t 10)⟩,
                     ⟨some 116, none, .mov (.t 11)⟩,
                     ⟨some 117, none, .bin .leq (.t 115) (.t 116)⟩,
                     ⟨some 118, none, .mov (.t 117)⟩,
                     ⟨some 119, some (118, true), .mov (.t 0)⟩,
                     ⟨some 120, some (118, true), .mov (.t 11)⟩,
                     ⟨some 121, some (118, true), .iaddr (.slice 1) (.t 119) (.t 120)⟩,
                     ⟨some 122, some (118, true), .load 1 false (.t 121)⟩,
                     ⟨some 123, some (118, true), .mov (.t 0)⟩,
                     ⟨some 124, some (118, true), .mov (.t 1)⟩,
                     ⟨some 125, some (118, true), .iaddr (.slice 1) (.t 123) (.t 124)⟩,
                     ⟨some 126, some (118, true), .load 1 false (.t 125)⟩,
                     ⟨some 127, some (118, true), .call false 43 [(.t 122), (.t 126)]⟩,
                     ⟨some 128, some (118, true), .un .not (.t 127)⟩,
                     ⟨some 129, none, .pick (.t 118) (.t 128) (.c (.bool false))⟩])
                    (.cond (.t 129)
                     .skip
                     (.exit 8)))
                   (.block 9
                    (.reg [⟨some 130, none, .mov (.t 11)⟩,
                     ⟨some 131, none, .bin .sub (.t 130) (.c (.int .i64 1))⟩,
                     ⟨some 11, none, .mov (.t 131)⟩])))
def c45b1 : AC := (.seq
                  (.seq
                   (.reg [⟨some 99, none, .mov (.t 10)⟩,
                    ⟨some 100, none, .mov (.t 11)⟩,
                    ⟨some 101, none, .bin .leq (.t 99) (.t 100)⟩,
                    ⟨some 102, none, .mov (.t 101)⟩,
                    ⟨some 103, some (102, true), .mov (.t 0)⟩,
                    ⟨some 104, some (102, true), .mov (.t 10)⟩,
                    ⟨some 105, some (102, true), .iaddr (.slice 1) (.t 103) (.t 104)⟩,
                    ⟨some 106, some (102, true), .load 1 false (.t 105)⟩,
                    ⟨some 107, some (102, true), .mov (.t 0)⟩,
                    ⟨some 108, some (102, true), .mov (.t 1)⟩,
                    ⟨some 109, some (102, true), .iaddr (.slice 1) (.t 107) (.t 108)⟩,
                    ⟨some 110, some (102, true), .load 1 false (.t 109)⟩,
                    ⟨some 111, some (102, true), .call false 43 [(.t 106), (.t 110)]⟩,
                    ⟨some 112, none, .pick (.t 102) (.t 111) (.c (.bool false))⟩])
                   (.cond (.t 112)
                    .skip
                    (.exit 6)))
                  (.block 7
                   (.reg [⟨some 113, none, .mov (.t 10)⟩,
                    ⟨some 114, none, .bin .add (.t 113) (.c (.int .i64 1))⟩,
                    ⟨some 10, none, .mov (.t 114)⟩])))
def c45r0 : AC := (.seq
                (.block 8
                 (.loop [0, 1, 10, 11]
                  c45b0))
                (.seq
                 (.seq
                  (.reg [⟨some 132, none, .mov (.t 10)⟩,
                   ⟨some 133, none, .mov (.t 11)⟩,
                   ⟨some 134, none, .bin .gtr (.t 132) (.t 133)⟩])
                  (.cond (.t 134)
                   (.exit 4)
                   .skip))
                 (.seq
                  (.reg [⟨some 135, none, .mov (.t 0)⟩,
                   ⟨some 136, none, .mov (.t 10)⟩,
                   ⟨some 137, none, .mov (.t 0)⟩,
                   ⟨some 138, none, .mov (.t 11)⟩,
                   ⟨some 139, none, .mov (.t 0)⟩,
                   ⟨some 140, none, .mov (.t 11)⟩,
                   ⟨some 141, none, .iaddr (.slice 1) (.t 139) (.t 140)⟩,
                   ⟨some 142, none, .load 1 false (.t 141)⟩,
                   ⟨some 143, none, .mov (.t 0)⟩,
                   ⟨some 144, none, .mov (.t 10)⟩,
                   ⟨some 145, none, .iaddr (.slice 1) (.t 143) (.t 144)⟩,
                   ⟨some 146, none, .load 1 false (.t 145)⟩,
                   ⟨some 147, none, .iaddr (.slice 1) (.t 135) (.t 136)⟩,
                   ⟨none, none, .store 1 (.t 147) (.t 142)⟩,
                   ⟨some 148, none, .iaddr (.slice 1) (.t 137) (.t 138)⟩,
                   ⟨none, none, .store 1 (.t 148) (.t 146)⟩])
                  (.seq
                   (.reg [⟨some 149, none, .mov (.t 10)⟩,
                    ⟨some 150, none, .bin .add (.t 149) (.c (.int .i64 1))⟩,
                    ⟨some 10, none, .mov (.t 150)⟩])
                   (.reg [⟨some 151, none, .mov (.t 11)⟩,
                    ⟨some 152, none, .bin .sub (.t 151) (.c (.int .i64 1))⟩,
                    ⟨some 11, none, .mov (.t 152)⟩])))))
def c45b2 : AC := (.block 5
              (.seq
               (.block 6
                (.loop [0, 1, 10, 11]
                 c45b1))
               c45r0))
def c45b3 : AC := (.seq
         (.seq
          (.reg [⟨some 46, none, .mov (.t 10)⟩,
           ⟨some 47, none, .mov (.t 11)⟩,
           ⟨some 48, none, .bin .leq (.t 46) (.t 47)⟩,
           ⟨some 49, none, .mov (.t 48)⟩,
           ⟨some 50, some (49, true), .mov (.t 0)⟩,
           ⟨some 51, some (49, true), .mov (.t 11)⟩,
           ⟨some 52, some (49, true), .iaddr (.slice 1) (.t 50) (.t 51)⟩,
           ⟨some 53, some (49, true), .load 1 false (.t 52)⟩,
           ⟨some 54, some (49, true), .mov (.t 0)⟩,
           ⟨some 55, some (49, true), .mov (.t 1)⟩,
           ⟨some 56, some (49, true), .iaddr (.slice 1) (.t 54) (.t 55)⟩,
           ⟨some 57, some (49, true), .load 1 false (.t 56)⟩,
           ⟨some 58, some (49, true), .call false 43 [(.t 53), (.t 57)]⟩,
           ⟨some 59, some (49, true), .un .not (.t 58)⟩,
           ⟨some 60, none, .pick (.t 49) (.t 59) (.c (.bool false))⟩])
          (.cond (.t 60)
           .skip
           (.exit 2)))
         (.block 3
          (.reg [⟨some 61, none, .mov (.t 11)⟩,
           ⟨some 62, none, .bin .sub (.t 61) (.c (.int .i64 1))⟩,
           ⟨some 11, none, .mov (.t 62)⟩])))
def c45b4 : AC := (.seq
        (.seq
         (.reg [⟨some 30, none, .mov (.t 10)⟩,
          ⟨some 31, none, .mov (.t 11)⟩,
          ⟨some 32, none, .bin .leq (.t 30) (.t 31)⟩,
          ⟨some 33, none, .mov (.t 32)⟩,
          ⟨some 34, some (33, true), .mov (.t 0)⟩,
          ⟨some 35, some (33, true), .mov (.t 10)⟩,
          ⟨some 36, some (33, true), .iaddr (.slice 1) (.t 34) (.t 35)⟩,
          ⟨some 37, some (33, true), .load 1 false (.t 36)⟩,
          ⟨some 38, some (33, true), .mov (.t 0)⟩,
          ⟨some 39, some (33, true), .mov (.t 1)⟩,
          ⟨some 40, some (33, true), .iaddr (.slice 1) (.t 38) (.t 39)⟩,
          ⟨some 41, some (33, true), .load 1 false (.t 40)⟩,
          ⟨some 42, some (33, true), .call false 43 [(.t 37), (.t 41)]⟩,
          ⟨some 43, none, .pick (.t 33) (.t 42) (.c (.bool false))⟩])
         (.cond (.t 43)
          .skip
          (.exit 0)))
        (.block 1
         (.reg [⟨some 44, none, .mov (.t 10)⟩,
          ⟨some 45, none, .bin .add (.t 44) (.c (.int .i64 1))⟩,
          ⟨some 10, none, .mov (.t 45)⟩])))
def c45r1 : AC := (.seq
       (.seq
        (.reg [⟨some 63, none, .mov (.t 10)⟩,
         ⟨some 64, none, .mov (.t 11)⟩,
         ⟨some 65, none, .bin .gtr (.t 63) (.t 64)⟩])
        (.cond (.t 65)
         (.seq
          (.reg [⟨some 66, none, .mov (.t 0)⟩,
           ⟨some 67, none, .mov (.t 11)⟩,
           ⟨some 68, none, .mov (.t 0)⟩,
           ⟨some 69, none, .mov (.t 1)⟩,
           ⟨some 70, none, .mov (.t 0)⟩,
           ⟨some 71, none, .mov (.t 1)⟩,
           ⟨some 72, none, .iaddr (.slice 1) (.t 70) (.t 71)⟩,
           ⟨some 73, none, .load 1 false (.t 72)⟩,
           ⟨some 74, none, .mov (.t 0)⟩,
           ⟨some 75, none, .mov (.t 11)⟩,
           ⟨some 76, none, .iaddr (.slice 1) (.t 74) (.t 75)⟩,
           ⟨some 77, none, .load 1 false (.t 76)⟩,
           ⟨some 78, none, .iaddr (.slice 1) (.t 66) (.t 67)⟩,
           ⟨none, none, .store 1 (.t 78) (.t 73)⟩,
           ⟨some 79, none, .iaddr (.slice 1) (.t 68) (.t 69)⟩,
           ⟨none, none, .store 1 (.t 79) (.t 77)⟩])
          (.seq
           (.reg [⟨some 80, none, .mov (.t 11)⟩,
            ⟨some 8, none, .mov (.t 80)⟩,
            ⟨some 9, none, .mov (.c (.bool true))⟩])
           .ret))
         .skip))
       (.seq
        (.reg [⟨some 81, none, .mov (.t 0)⟩,
         ⟨some 82, none, .mov (.t 10)⟩,
         ⟨some 83, none, .mov (.t 0)⟩,
         ⟨some 84, none, .mov (.t 11)⟩,
         ⟨some 85, none, .mov (.t 0)⟩,
         ⟨some 86, none, .mov (.t 11)⟩,
         ⟨some 87, none, .iaddr (.slice 1) (.t 85) (.t 86)⟩,
         ⟨some 88, none, .load 1 false (.t 87)⟩,
         ⟨some 89, none, .mov (.t 0)⟩,
         ⟨some 90, none, .mov (.t 10)⟩,
         ⟨some 91, none, .iaddr (.slice 1) (.t 89) (.t 90)⟩,
         ⟨some 92, none, .load 1 false (.t 91)⟩,
         ⟨some 93, none, .iaddr (.slice 1) (.t 81) (.t 82)⟩,
         ⟨none, none, .store 1 (.t 93) (.t 88)⟩,
         ⟨some 94, none, .iaddr (.slice 1) (.t 83) (.t 84)⟩,
         ⟨none, none, .store 1 (.t 94) (.t 92)⟩])
        (.seq
         (.reg [⟨some 95, none, .mov (.t 10)⟩,
          ⟨some 96, none, .bin .add (.t 95) (.c (.int .i64 1))⟩,
          ⟨some 10, none, .mov (.t 96)⟩])
         (.seq
          (.reg [⟨some 97, none, .mov (.t 11)⟩,
           ⟨some 98, none, .bin .sub (.t 97) (.c (.int .i64 1))⟩,
           ⟨some 11, none, .mov (.t 98)⟩])
          (.seq
           (.block 4
            (.loop [0, 1, 10, 11]
             c45b2))
           (.seq
            (.reg [⟨some 153, none, .mov (.t 0)⟩,
             ⟨some 154, none, .mov (.t 11)⟩,
             ⟨some 155, none, .mov (.t 0)⟩,
             ⟨some 156, none, .mov (.t 1)⟩,
             ⟨some 157, none, .mov (.t 0)⟩,
             ⟨some 158, none, .mov (.t 1)⟩,
             ⟨some 159, none, .iaddr (.slice 1) (.t 157) (.t 158)⟩,
             ⟨some 160, none, .load 1 false (.t 159)⟩,
             ⟨some 161, none, .mov (.t 0)⟩,
             ⟨some 162, none, .mov (.t 11)⟩,
             ⟨some 163, none, .iaddr (.slice 1) (.t 161) (.t 162)⟩,
             ⟨some 164, none, .load 1 false (.t 163)⟩,
             ⟨some 165, none, .iaddr (.slice 1) (.t 153) (.t 154)⟩,
             ⟨none, none, .store 1 (.t 165) (.t 160)⟩,
             ⟨some 166, none, .iaddr (.slice 1) (.t 155) (.t 156)⟩,
             ⟨none, none, .store 1 (.t 166) (.t 164)⟩])
            (.seq
             (.reg [⟨some 167, none, .mov (.t 11)⟩,
              ⟨some 8, none, .mov (.t 167)⟩,
              ⟨some 9, none, .mov (.c (.bool false))⟩])
             .ret)))))))
def c45r2 : AC := (.seq
      (.block 2
       (.loop [0, 1, 10, 11]
        c45b3))
      c45r1)
/-- slices.partitionOrdered[int] -/
def c45 : AFn := ⟨4, 168, [.t 8, .t 9],
 (.seq
  (.reg [⟨some 8, none, .mov (.c (.int .i64 0))⟩,
   ⟨some 9, none, .mov (.c (.bool false))⟩])
  (.seq
   (.reg [⟨some 12, none, .mov (.t 0)⟩,
    ⟨some 13, none, .mov (.t 1)⟩,
    ⟨some 14, none, .mov (.t 0)⟩,
    ⟨some 15, none, .mov (.t 3)⟩,
    ⟨some 16, none, .mov (.t 0)⟩,
    ⟨some 17, none, .mov (.t 3)⟩,
    ⟨some 18, none, .iaddr (.slice 1) (.t 16) (.t 17)⟩,
    ⟨some 19, none, .load 1 false (.t 18)⟩,
    ⟨some 20, none, .mov (.t 0)⟩,
    ⟨some 21, none, .mov (.t 1)⟩,
    ⟨some 22, none, .iaddr (.slice 1) (.t 20) (.t 21)⟩,
    ⟨some 23, none, .load 1 false (.t 22)⟩,
    ⟨some 24, none, .iaddr (.slice 1) (.t 12) (.t 13)⟩,
    ⟨none, none, .store 1 (.t 24) (.t 19)⟩,
    ⟨some 25, none, .iaddr (.slice 1) (.t 14) (.t 15)⟩,
    ⟨none, none, .store 1 (.t 25) (.t 23)⟩])
   (.seq
    (.reg [⟨some 26, none, .mov (.t 1)⟩,
     ⟨some 27, none, .bin .add (.t 26) (.c (.int .i64 1))⟩,
     ⟨some 28, none, .mov (.t 2)⟩,
     ⟨some 29, none, .bin .sub (.t 28) (.c (.int .i64 1))⟩,
     ⟨some 10, none, .mov (.t 27)⟩,
     ⟨some 11, none, .mov (.t 29)⟩])
    (.seq
     (.block 0
      (.loop [0, 1, 10, 11]
       c45b4))
     c45r2)))), none⟩
def k45 : List (List Nat) := [[0, 1, 10, 11], [0, 1, 10, 11], [0, 1, 10, 11], [0, 1, 10, 11], [0, 1, 10, 11]]
def o45 : List Nat := [1000028, 1000029, 1000035, 1000037, 1000038, 1000039, 1000041, 1000042, 1000044, 1000045, 1000048, 3000000]
/-- math/bits.Len32 -/
def c46 : AFn := ⟨1, 19, [.t 2],
 (.seq
  (.reg [⟨some 2, none, .mov (.c (.int .i64 0))⟩])
  (.seq
   (.seq
    (.reg [⟨some 3, none, .mov (.t 0)⟩,
     ⟨some 4, none, .bin .geq (.t 3) (.c (.int .u32 65536))⟩])
    (.cond (.t 4)
     (.seq
      (.reg [⟨some 5, none, .mov (.t 0)⟩,
       ⟨some 6, none, .bin .shr (.t 5) (.c (.int .u64 16))⟩,
       ⟨some 0, none, .mov (.t 6)⟩])
      (.reg [⟨some 2, none, .mov (.c (.int .i64 16))⟩]))
     .skip))
   (.seq
    (.seq
     (.reg [⟨some 7, none, .mov (.t 0)⟩,
      ⟨some 8, none, .bin .geq (.t 7) (.c (.int .u32 256))⟩])
     (.cond (.t 8)
      (.seq
       (.reg [⟨some 9, none, .mov (.t 0)⟩,
        ⟨some 10, none, .bin .shr (.t 9) (.c (.int .u64 8))⟩,
        ⟨some 0, none, .mov (.t 10)⟩])
       (.reg [⟨some 11, none, .mov (.t 2)⟩,
        ⟨some 12, none, .bin .add (.t 11) (.c (.int .i64 8))⟩,
        ⟨some 2, none, .mov (.t 12)⟩]))
      .skip))
    (.seq
     (.reg [⟨some 13, none, .mov (.t 2)⟩,
      ⟨some 14, none, .mov (.t 0)⟩,
      ⟨some 15, none, .conv (.int .u8) (.t 14)⟩,
      ⟨some 16, none, .idxS (.c (.str [0, 1, 2, 2, 3, 3, 3, 3, 4, 4, 4, 4, 4, 4, 4, 4, 5, 5, 5, 5, 5, 5, 5, 5, 5, 5, 5, 5, 5, 5, 5, 5, 6, 6, 6, 6, 6, 6, 6, 6, 6, 6, 6, 6, 6, 6, 6, 6, 6, 6, 6, 6, 6, 6, 6, 6, 6, 6, 6, 6, 6, 6, 6, 6, 7, 7, 7, 7, 7, 7, 7, 7, 7, 7, 7, 7, 7, 7, 7, 7, 7, 7, 7, 7, 7, 7, 7, 7, 7, 7, 7, 7, 7, 7, 7, 7, 7, 7, 7, 7, 7, 7, 7, 7, 7, 7, 7, 7, 7, 7, 7, 7, 7, 7, 7, 7, 7, 7, 7, 7, 7, 7, 7, 7, 7, 7, 7, 7, 8, 8, 8, 8, 8, 8, 8, 8, 8, 8, 8, 8, 8, 8, 8, 8, 8, 8, 8, 8, 8, 8, 8, 8, 8, 8, 8, 8, 8, 8, 8, 8, 8, 8, 8, 8, 8, 8, 8, 8, 8, 8, 8, 8, 8, 8, 8, 8, 8, 8, 8, 8, 8, 8, 8, 8, 8, 8, 8, 8, 8, 8, 8, 8, 8, 8, 8, 8, 8, 8, 8, 8, 8, 8, 8, 8, 8, 8, 8, 8, 8, 8, 8, 8, 8, 8, 8, 8, 8, 8, 8, 8, 8, 8, 8, 8, 8, 8, 8, 8, 8, 8, 8, 8, 8, 8, 8, 8, 8, 8, 8, 8, 8, 8, 8, 8, 8, 8, 8, 8, 8, 8, 8, 8, 8, 8, 8, 8])) (.t 15)⟩,
      ⟨some 17, none, .conv (.int .i64) (.t 16)⟩,
      ⟨some 18, none, .bin .add (.t 13) (.t 17)⟩,
      ⟨some 2, none, .mov (.t 18)⟩])
     .ret)))), none⟩
def k46 : List (List Nat) := []
def o46 : List Nat := [1000028, 1000029, 1000035, 1000037, 1000038, 1000039, 1000041, 1000042, 1000044, 1000045, 1000048, 3000000]
/-- math/bits.Len64 -/
def c47 : AFn := ⟨1, 25, [.t 2],
 (.seq
  (.reg [⟨some 2, none, .mov (.c (.int .i64 0))⟩])
  (.seq
   (.seq
    (.reg [⟨some 3, none, .mov (.t 0)⟩,
     ⟨some 4, none, .bin .geq (.t 3) (.c (.int .u64 4294967296))⟩])
    (.cond (.t 4)
     (.seq
      (.reg [⟨some 5, none, .mov (.t 0)⟩,
       ⟨some 6, none, .bin .shr (.t 5) (.c (.int .u64 32))⟩,
       ⟨some 0, none, .mov (.t 6)⟩])
      (.reg [⟨some 2, none, .mov (.c (.int .i64 32))⟩]))
     .skip))
   (.seq
    (.seq
     (.reg [⟨some 7, none, .mov (.t 0)⟩,
      ⟨some 8, none, .bin .geq (.t 7) (.c (.int .u64 65536))⟩])
     (.cond (.t 8)
      (.seq
       (.reg [⟨some 9, none, .mov (.t 0)⟩,
        ⟨some 10, none, .bin .shr (.t 9) (.c (.int .u64 16))⟩,
        ⟨some 0, none, .mov (.t 10)⟩])
       (.reg [⟨some 11, none, .mov (.t 2)⟩,
        ⟨some 12, none, .bin .add (.t 11) (.c (.int .i64 16))⟩,
        ⟨some 2, none, .mov (.t 12)⟩]))
      .skip))
    (.seq
     (.seq
      (.reg [⟨some 13, none, .mov (.t 0)⟩,
       ⟨some 14, none, .bin .geq (.t 13) (.c (.int .u64 256))⟩])
      (.cond (.t 14)
       (.seq
        (.reg [⟨some 15, none, .mov (.t 0)⟩,
         ⟨some 16, none, .bin .shr (.t 15) (.c (.int .u64 8))⟩,
         ⟨some 0, none, .mov (.t 16)⟩])
        (.reg [⟨some 17, none, .mov (.t 2)⟩,
         ⟨some 18, none, .bin .add (.t 17) (.c (.int .i64 8))⟩,
         ⟨some 2, none, .mov (.t 18)⟩]))
       .skip))
     (.seq
      (.reg [⟨some 19, none, .mov (.t 2)⟩,
       ⟨some 20, none, .mov (.t 0)⟩,
       ⟨some 21, none, .conv (.int .u8) (.t 20)⟩,
       ⟨some 22, none, .idxS (.c (.str [0, 1, 2, 2, 3, 3, 3, 3, 4, 4, 4, 4, 4, 4, 4, 4, 5, 5, 5, 5, 5, 5, 5, 5, 5, 5, 5, 5, 5, 5, 5, 5, 6, 6, 6, 6, 6, 6, 6, 6, 6, 6, 6, 6, 6, 6, 6, 6, 6, 6, 6, 6, 6, 6, 6, 6, 6, 6, 6, 6, 6, 6, 6, 6, 7, 7, 7, 7, 7, 7, 7, 7, 7, 7, 7, 7, 7, 7, 7, 7, 7, 7, 7, 7, 7, 7, 7, 7, 7, 7, 7, 7, 7, 7, 7, 7, 7, 7, 7, 7, 7, 7, 7, 7, 7, 7, 7, 7, 7, 7, 7, 7, 7, 7, 7, 7, 7, 7, 7, 7, 7, 7, 7, 7, 7, 7, 7, 7, 8, 8, 8, 8, 8, 8, 8, 8, 8, 8, 8, 8, 8, 8, 8, 8, 8, 8, 8, 8, 8, 8, 8, 8, 8, 8, 8, 8, 8, 8, 8, 8, 8, 8, 8, 8, 8, 8, 8, 8, 8, 8, 8, 8, 8, 8, 8, 8, 8, 8, 8, 8, 8, 8, 8, 8, 8, 8, 8, 8, 8, 8, 8, 8, 8, 8, 8, 8, 8, 8, 8, 8, 8, 8, 8, 8, 8, 8, 8, 8, 8, 8, 8, 8, 8, 8, 8, 8, 8, 8, 8, 8, 8, 8, 8, 8, 8, 8, 8, 8, 8, 8, 8, 8, 8, 8, 8, 8, 8, 8, 8, 8, 8, 8, 8, 8, 8, 8, 8, 8, 8, 8, 8, 8, 8, 8, 8, 8])) (.t 21)⟩,
       ⟨some 23, none, .conv (.int .i64) (.t 22)⟩,
       ⟨some 24, none, .bin .add (.t 19) (.t 23)⟩,
       ⟨some 2, none, .mov (.t 24)⟩])
      .ret))))), none⟩
def k47 : List (List Nat) := []
def o47 : List Nat := [1000028, 1000029, 1000035, 1000037, 1000038, 1000039, 1000041, 1000042, 1000044, 1000045, 1000048, 3000000]
def c48b0 : AC := (.block 1
     (.seq
      (.reg [⟨some 11, none, .mov (.t 8)⟩,
       ⟨some 12, none, .bin .mul (.c (.int .i64 2)) (.t 11)⟩,
       ⟨some 13, none, .bin .add (.t 12) (.c (.int .i64 1))⟩,
       ⟨some 9, none, .mov (.t 13)⟩])
      (.seq
       (.seq
        (.reg [⟨some 14, none, .mov (.t 9)⟩,
         ⟨some 15, none, .mov (.t 2)⟩,
         ⟨some 16, none, .bin .geq (.t 14) (.t 15)⟩])
        (.cond (.t 16)
         (.exit 0)
         .skip))
       (.seq
        (.seq
         (.reg [⟨some 17, none, .mov (.t 9)⟩,
          ⟨some 18, none, .bin .add (.t 17) (.c (.int .i64 1))⟩,
          ⟨some 19, none, .mov (.t 2)⟩,
          ⟨some 20, none, .bin .lss (.t 18) (.t 19)⟩,
          ⟨some 21, none, .mov (.t 20)⟩,
          ⟨some 22, some (21, true), .mov (.t 0)⟩,
          ⟨some 23, some (21, true), .mov (.t 3)⟩,
          ⟨some 24, some (21, true), .mov (.t 9)⟩,
          ⟨some 25, some (21, true), .bin .add (.t 23) (.t 24)⟩,
          ⟨some 26, some (21, true), .iaddr (.slice 1) (.t 22) (.t 25)⟩,
          ⟨some 27, some (21, true), .load 1 false (.t 26)⟩,
          ⟨some 28, some (21, true), .mov (.t 0)⟩,
          ⟨some 29, some (21, true), .mov (.t 3)⟩,
          ⟨some 30, some (21, true), .mov (.t 9)⟩,
          ⟨some 31, some (21, true), .bin .add (.t 29) (.t 30)⟩,
          ⟨some 32, some (21, true), .bin .add (.t 31) (.c (.int .i64 1))⟩,
          ⟨some 33, some (21, true), .iaddr (.slice 1) (.t 28) (.t 32)⟩,
          ⟨some 34, some (21, true), .load 1 false (.t 33)⟩,
          ⟨some 35, some (21, true), .call false 43 [(.t 27), (.t 34)]⟩,
          ⟨some 36, none, .pick (.t 21) (.t 35) (.c (.bool false))⟩])
         (.cond (.t 36)
          (.reg [⟨some 37, none, .mov (.t 9)⟩,
           ⟨some 38, none, .bin .add (.t 37) (.c (.int .i64 1))⟩,
           ⟨some 9, none, .mov (.t 38)⟩])
          .skip))
        (.seq
         (.seq
          (.reg [⟨some 39, none, .mov (.t 0)⟩,
           ⟨some 40, none, .mov (.t 3)⟩,
           ⟨some 41, none, .mov (.t 8)⟩,
           ⟨some 42, none, .bin .add (.t 40) (.t 41)⟩,
           ⟨some 43, none, .iaddr (.slice 1) (.t 39) (.t 42)⟩,
           ⟨some 44, none, .load 1 false (.t 43)⟩,
           ⟨some 45, none, .mov (.t 0)⟩,
           ⟨some 46, none, .mov (.t 3)⟩,
           ⟨some 47, none, .mov (.t 9)⟩,
           ⟨some 48, none, .bin .add (.t 46) (.t 47)⟩,
           ⟨some 49, none, .iaddr (.slice 1) (.t 45) (.t 48)⟩,
           ⟨some 50, none, .load 1 false (.t 49)⟩,
           ⟨some 51, none, .call false 43 [(.t 44), (.t 50)]⟩,
           ⟨some 52, none, .un .not (.t 51)⟩])
          (.cond (.t 52)
           .ret
           .skip))
         (.seq
          (.reg [⟨some 53, none, .mov (.t 0)⟩,
           ⟨some 54, none, .mov (.t 3)⟩,
           ⟨some 55, none, .mov (.t 8)⟩,
           ⟨some 56, none, .bin .add (.t 54) (.t 55)⟩,
           ⟨some 57, none, .mov (.t 0)⟩,
           ⟨some 58, none, .mov (.t 3)⟩,
           ⟨some 59, none, .mov (.t 9)⟩,
           ⟨some 60, none, .bin .add (.t 58) (.t 59)⟩,
           ⟨some 61, none, .mov (.t 0)⟩,
           ⟨some 62, none, .mov (.t 3)⟩,
           ⟨some 63, none, .mov (.t 9)⟩,
           ⟨some 64, none, .bin .add (.t 62) (.t 63)⟩,
           ⟨some 65, none, .iaddr (.slice 1) (.t 61) (.t 64)⟩,
           ⟨some 66, none, .load 1 false (.t 65)⟩,
           ⟨some 67, none, .mov (.t 0)⟩,
           ⟨some 68, none, .mov (.t 3)⟩,
           ⟨some 69, none, .mov (.t 8)⟩,
           ⟨some 70, none, .bin .add (.t 68) (.t 69)⟩,
           ⟨some 71, none, .iaddr (.slice 1) (.t 67) (.t 70)⟩,
           ⟨some 72, none, .load 1 false (.t 71)⟩,
           ⟨some 73, none, .iaddr (.slice 1) (.t 53) (.t 56)⟩,
           ⟨none, none, .store 1 (.t 73) (.t 66)⟩,
           ⟨some 74, none, .iaddr (.slice 1) (.t 57) (.t 60)⟩,
           ⟨none, none, .store 1 (.t 74) (.t 72)⟩])
          (.reg [⟨some 75, none, .mov (.t 9)⟩,
           ⟨some 8, none, .mov (.t 75)⟩])))))))
/-- slices.siftDownOrdered[int] -/
def c48 : AFn := ⟨4, 76, [],
 (.seq
  (.reg [⟨some 10, none, .mov (.t 1)⟩,
   ⟨some 8, none, .mov (.t 10)⟩])
  (.block 0
   (.loop [0, 2, 3, 8]
    c48b0))), none⟩
def k48 : List (List Nat) := [[0, 2, 3, 8]]
def o48 : List Nat := [1000028, 1000029, 1000035, 1000037, 1000038, 1000039, 1000041, 1000042, 1000044, 1000045, 1000048, 3000000]
/-- slices.nextPowerOfTwo -/
def c49 : AFn := ⟨1, 7, [.t 2],
 (.seq
  (.reg [⟨some 2, none, .mov (.c (.int .u64 0))⟩])
  (.seq
   (.reg [⟨some 3, none, .mov (.t 0)⟩,
    ⟨some 4, none, .conv (.int .u64) (.t 3)⟩,
    ⟨some 5, none, .call false 36 [(.t 4)]⟩,
    ⟨some 6, none, .bin .shl (.c (.int .u64 1)) (.t 5)⟩,
    ⟨some 2, none, .mov (.t 6)⟩])
   .ret)), none⟩
def k49 : List (List Nat) := []
def o49 : List Nat := [1000028, 1000029, 1000035, 1000037, 1000038, 1000039, 1000041, 1000042, 1000044, 1000045, 1000048, 3000000]
/-- (*slices.xorshift).Next -/
def c50 : AFn := ⟨1, 33, [.t 2],
 (.seq
  (.reg [⟨some 2, none, .mov (.c (.int .u64 0))⟩])
  (.seq
   (.reg [⟨some 3, none, .mov (.t 0)⟩,
    ⟨some 4, none, .nilck (.t 3)⟩,
    ⟨some 5, none, .load 1 false (.t 4)⟩,
    ⟨some 6, none, .mov (.t 0)⟩,
    ⟨some 7, none, .nilck (.t 6)⟩,
    ⟨some 8, none, .load 1 false (.t 7)⟩,
    ⟨some 9, none, .bin .shl (.t 8) (.c (.int .u64 13))⟩,
    ⟨some 10, none, .bin .xor (.t 5) (.t 9)⟩,
    ⟨some 11, none, .nilck (.t 3)⟩,
    ⟨none, none, .store 1 (.t 11) (.t 10)⟩])
   (.seq
    (.reg [⟨some 12, none, .mov (.t 0)⟩,
     ⟨some 13, none, .nilck (.t 12)⟩,
     ⟨some 14, none, .load 1 false (.t 13)⟩,
     ⟨some 15, none, .mov (.t 0)⟩,
     ⟨some 16, none, .nilck (.t 15)⟩,
     ⟨some 17, none, .load 1 false (.t 16)⟩,
     ⟨some 18, none, .bin .shr (.t 17) (.c (.int .u64 7))⟩,
     ⟨some 19, none, .bin .xor (.t 14) (.t 18)⟩,
     ⟨some 20, none, .nilck (.t 12)⟩,
     ⟨none, none, .store 1 (.t 20) (.t 19)⟩])
    (.seq
     (.reg [⟨some 21, none, .mov (.t 0)⟩,
      ⟨some 22, none, .nilck (.t 21)⟩,
      ⟨some 23, none, .load 1 false (.t 22)⟩,
      ⟨some 24, none, .mov (.t 0)⟩,
      ⟨some 25, none, .nilck (.t 24)⟩,
      ⟨some 26, none, .load 1 false (.t 25)⟩,
      ⟨some 27, none, .bin .shl (.t 26) (.c (.int .u64 17))⟩,
      ⟨some 28, none, .bin .xor (.t 23) (.t 27)⟩,
      ⟨some 29, none, .nilck (.t 21)⟩,
      ⟨none, none, .store 1 (.t 29) (.t 28)⟩])
     (.seq
      (.reg [⟨some 30, none, .mov (.t 0)⟩,
       ⟨some 31, none, .nilck (.t 30)⟩,
       ⟨some 32, none, .load 1 false (.t 31)⟩,
       ⟨some 2, none, .mov (.t 32)⟩])
      .ret))))), none⟩
def k50 : List (List Nat) := []
def o50 : List Nat := [1000028, 1000029, 1000035, 1000037, 1000038, 1000039, 1000041, 1000042, 1000044, 1000045, 1000048, 3000000]
/-- slices.medianAdjacentOrdered[int] -/
def c51 : AFn := ⟨3, 15, [.t 6],
 (.seq
  (.reg [⟨some 6, none, .mov (.c (.int .i64 0))⟩])
  (.seq
   (.reg [⟨some 7, none, .mov (.t 0)⟩,
    ⟨some 8, none, .mov (.t 1)⟩,
    ⟨some 9, none, .bin .sub (.t 8) (.c (.int .i64 1))⟩,
    ⟨some 10, none, .mov (.t 1)⟩,
    ⟨some 11, none, .mov (.t 1)⟩,
    ⟨some 12, none, .bin .add (.t 11) (.c (.int .i64 1))⟩,
    ⟨some 13, none, .mov (.t 2)⟩,
    ⟨some 14, none, .call false 52 [(.t 7), (.t 9), (.t 10), (.t 12), (.t 13)]⟩,
    ⟨some 6, none, .mov (.t 14)⟩])
   .ret)), none⟩
def k51 : List (List Nat) := []
def o51 : List Nat := [1000028, 1000029, 1000035, 1000037, 1000038, 1000039, 1000041, 1000042, 1000044, 1000045, 1000048, 3000000]
/-- slices.medianOrdered[int] -/
def c52 : AFn := ⟨5, 36, [.t 10],
 (.seq
  (.reg [⟨some 10, none, .mov (.c (.int .i64 0))⟩])
  (.seq
   (.reg [⟨some 12, none, .mov (.t 0)⟩,
    ⟨some 13, none, .mov (.t 1)⟩,
    ⟨some 14, none, .mov (.t 2)⟩,
    ⟨some 15, none, .mov (.t 4)⟩,
    ⟨some 16, none, .call false 54 [(.t 12), (.t 13), (.t 14), (.t 15)]⟩,
    ⟨some 11, none, .mov (.t 16)⟩,
    ⟨some 17, none, .ext (.t 11) 0⟩,
    ⟨some 18, none, .ext (.t 11) 1⟩,
    ⟨some 1, none, .mov (.t 17)⟩,
    ⟨some 2, none, .mov (.t 18)⟩])
   (.seq
    (.reg [⟨some 20, none, .mov (.t 0)⟩,
     ⟨some 21, none, .mov (.t 2)⟩,
     ⟨some 22, none, .mov (.t 3)⟩,
     ⟨some 23, none, .mov (.t 4)⟩,
     ⟨some 24, none, .call false 54 [(.t 20), (.t 21), (.t 22), (.t 23)]⟩,
     ⟨some 19, none, .mov (.t 24)⟩,
     ⟨some 25, none, .ext (.t 19) 0⟩,
     ⟨some 26, none, .ext (.t 19) 1⟩,
     ⟨some 2, none, .mov (.t 25)⟩,
     ⟨some 3, none, .mov (.t 26)⟩])
    (.seq
     (.reg [⟨some 28, none, .mov (.t 0)⟩,
      ⟨some 29, none, .mov (.t 1)⟩,
      ⟨some 30, none, .mov (.t 2)⟩,
      ⟨some 31, none, .mov (.t 4)⟩,
      ⟨some 32, none, .call false 54 [(.t 28), (.t 29), (.t 30), (.t 31)]⟩,
      ⟨some 27, none, .mov (.t 32)⟩,
      ⟨some 33, none, .ext (.t 27) 0⟩,
      ⟨some 34, none, .ext (.t 27) 1⟩,
      ⟨some 1, none, .mov (.t 33)⟩,
      ⟨some 2, none, .mov (.t 34)⟩])
     (.seq
      (.reg [⟨some 35, none, .mov (.t 2)⟩,
       ⟨some 10, none, .mov (.t 35)⟩])
      .ret))))), none⟩
def k52 : List (List Nat) := []
def o52 : List Nat := [1000028, 1000029, 1000035, 1000037, 1000038, 1000039, 1000041, 1000042, 1000044, 1000045, 1000048, 3000000]
/-- cmp.isNaN[int] -/
def c53 : AFn := ⟨1, 6, [.t 2],
 (.seq
  (.reg [⟨some 2, none, .mov (.c (.bool false))⟩])
  (.seq
   (.reg [⟨some 3, none, .mov (.t 0)⟩,
    ⟨some 4, none, .mov (.t 0)⟩,
    ⟨some 5, none, .bin .neq (.t 3) (.t 4)⟩,
    ⟨some 2, none, .mov (.t 5)⟩])
   .ret)), none⟩
def k53 : List (List Nat) := []
def o53 : List Nat := [1000028, 1000029, 1000035, 1000037, 1000038, 1000039, 1000041, 1000042, 1000044, 1000045, 1000048, 3000000]
/-- slices.order2Ordered[int] -/
def c54 : AFn := ⟨4, 28, [.t 8, .t 9],
 (.seq
  (.reg [⟨some 8, none, .mov (.c (.int .i64 0))⟩,
   ⟨some 9, none, .mov (.c (.int .i64 0))⟩])
  (.seq
   (.seq
    (.reg [⟨some 10, none, .mov (.t 0)⟩,
     ⟨some 11, none, .mov (.t 2)⟩,
     ⟨some 12, none, .iaddr (.slice 1) (.t 10) (.t 11)⟩,
     ⟨some 13, none, .load 1 false (.t 12)⟩,
     ⟨some 14, none, .mov (.t 0)⟩,
     ⟨some 15, none, .mov (.t 1)⟩,
     ⟨some 16, none, .iaddr (.slice 1) (.t 14) (.t 15)⟩,
     ⟨some 17, none, .load 1 false (.t 16)⟩,
     ⟨some 18, none, .call false 43 [(.t 13), (.t 17)]⟩])
    (.cond (.t 18)
     (.seq
      (.reg [⟨some 19, none, .mov (.t 3)⟩,
       ⟨some 20, none, .nilck (.t 19)⟩,
       ⟨some 21, none, .load 1 false (.t 20)⟩,
       ⟨some 22, none, .bin .add (.t 21) (.c (.int .i64 1))⟩,
       ⟨some 23, none, .nilck (.t 19)⟩,
       ⟨none, none, .store 1 (.t 23) (.t 22)⟩])
      (.seq
       (.reg [⟨some 24, none, .mov (.t 2)⟩,
        ⟨some 25, none, .mov (.t 1)⟩,
        ⟨some 8, none, .mov (.t 24)⟩,
        ⟨some 9, none, .mov (.t 25)⟩])
       .ret))
     .skip))
   (.seq
    (.reg [⟨some 26, none, .mov (.t 1)⟩,
     ⟨some 27, none, .mov (.t 2)⟩,
     ⟨some 8, none, .mov (.t 26)⟩,
     ⟨some 9, none, .mov (.t 27)⟩])
    .ret))), none⟩
def k54 : List (List Nat) := []
def o54 : List Nat := [1000028, 1000029, 1000035, 1000037, 1000038, 1000039, 1000041, 1000042, 1000044, 1000045, 1000048, 3000000]
def tbl : List (Nat × AFn) := [(3, c3), (4, c4), (5, c5), (6, c6), (7, c7), (8, c8), (9, c9), (10, c10), (11, c11), (12, c12), (13, c13), (14, c14), (15, c15), (16, c16), (17, c17), (18, c18), (19, c19), (20, c20), (21, c21), (22, c22), (23, c23), (24, c24), (25, c25), (26, c26), (27, c27), (28, c28), (29, c29), (30, c30), (31, c31), (32, c32), (33, c33), (34, c34), (35, c35), (36, c36), (37, c37), (38, c38), (39, c39), (40, c40), (41, c41), (42, c42), (43, c43), (44, c44), (45, c45), (46, c46), (47, c47), (48, c48), (49, c49), (50, c50), (51, c51), (52, c52), (53, c53), (54, c54)]
theorem d3 : digFn Try.prog o3 k3 Try.f3 = some c3 := by kernel_rfl
theorem d4 : digFn Try.prog o4 k4 Try.f4 = some c4 := by kernel_rfl
theorem d5 : digFn Try.prog o5 k5 Try.f5 = some c5 := by kernel_rfl
theorem d6 : digFn Try.prog o6 k6 Try.f6 = some c6 := by kernel_rfl
theorem d7 : digFn Try.prog o7 k7 Try.f7 = some c7 := by kernel_rfl
theorem d8 : digFn Try.prog o8 k8 Try.f8 = some c8 := by kernel_rfl
theorem d9 : digFn Try.prog o9 k9 Try.f9 = some c9 := by kernel_rfl
theorem d10 : digFn Try.prog o10 k10 Try.f10 = some c10 := by kernel_rfl
theorem d11 : digFn Try.prog o11 k11 Try.f11 = some c11 := by kernel_rfl
theorem d12 : digFn Try.prog o12 k12 Try.f12 = some c12 := by kernel_rfl
theorem d13 : digFn Try.prog o13 k13 Try.f13 = some c13 := by kernel_rfl
theorem d14 : digFn Try.prog o14 k14 Try.f14 = some c14 := by kernel_rfl
theorem d15 : digFn Try.prog o15 k15 Try.f15 = some c15 := by kernel_rfl
theorem d16 : digFn Try.prog o16 k16 Try.f16 = some c16 := by kernel_rfl
theorem d17 : digFn Try.prog o17 k17 Try.f17 = some c17 := by kernel_rfl
theorem d18 : digFn Try.prog o18 k18 Try.f18 = some c18 := by kernel_rfl
theorem d19 : digFn Try.prog o19 k19 Try.f19 = some c19 := by kernel_rfl
theorem d20 : digFn Try.prog o20 k20 Try.f20 = some c20 := by kernel_rfl
theorem d21 : digFn Try.prog o21 k21 Try.f21 = some c21 := by kernel_rfl
theorem d22 : digFn Try.prog o22 k22 Try.f22 = some c22 := by kernel_rfl
theorem d23 : digFn Try.prog o23 k23 Try.f23 = some c23 := by kernel_rfl
theorem d24 : digFn Try.prog o24 k24 Try.f24 = some c24 := by kernel_rfl
theorem d25 : digFn Try.prog o25 k25 Try.f25 = some c25 := by kernel_rfl
theorem d26 : digFn Try.prog o26 k26 Try.f26 = some c26 := by kernel_rfl
theorem d27 : digFn Try.prog o27 k27 Try.f27 = some c27 := by kernel_rfl
theorem d29 : digFn Try.prog o29 k29 Try.f29 = some c29 := by kernel_rfl
theorem d30 : digFn Try.prog o30 k30 Try.f30 = some c30 := by kernel_rfl
theorem d31 : digFn Try.prog o31 k31 Try.f31 = some c31 := by kernel_rfl
theorem d32 : digFn Try.prog o32 k32 Try.f32 = some c32 := by kernel_rfl
theorem d33 : digFn Try.prog o33 k33 Try.f33 = some c33 := by kernel_rfl
theorem d34 : digFn Try.prog o34 k34 Try.f34 = some c34 := by kernel_rfl
theorem d35 : digFn Try.prog o35 k35 Try.f35 = some c35 := by kernel_rfl
theorem d36 : digFn Try.prog o36 k36 Try.f36 = some c36 := by kernel_rfl
theorem d37 : digFn Try.prog o37 k37 Try.f37 = some c37 := by kernel_rfl
theorem d38 : digFn Try.prog o38 k38 Try.f38 = some c38 := by kernel_rfl
theorem d39 : digFn Try.prog o39 k39 Try.f39 = some c39 := by kernel_rfl
theorem d40 : digFn Try.prog o40 k40 Try.f40 = some c40 := by kernel_rfl
theorem d41 : digFn Try.prog o41 k41 Try.f41 = some c41 := by kernel_rfl
theorem d42 : digFn Try.prog o42 k42 Try.f42 = some c42 := by kernel_rfl
theorem d43 : digFn Try.prog o43 k43 Try.f43 = some c43 := by kernel_rfl
theorem d44 : digFn Try.prog o44 k44 Try.f44 = some c44 := by kernel_rfl
theorem d45 : digFn Try.prog o45 k45 Try.f45 = some c45 := by kernel_rfl
theorem d46 : digFn Try.prog o46 k46 Try.f46 = some c46 := by kernel_rfl
theorem d47 : digFn Try.prog o47 k47 Try.f47 = some c47 := by kernel_rfl
theorem d48 : digFn Try.prog o48 k48 Try.f48 = some c48 := by kernel_rfl
theorem d49 : digFn Try.prog o49 k49 Try.f49 = some c49 := by kernel_rfl
theorem d50 : digFn Try.prog o50 k50 Try.f50 = some c50 := by kernel_rfl
theorem d51 : digFn Try.prog o51 k51 Try.f51 = some c51 := by kernel_rfl
theorem d52 : digFn Try.prog o52 k52 Try.f52 = some c52 := by kernel_rfl
theorem d53 : digFn Try.prog o53 k53 Try.f53 = some c53 := by kernel_rfl
theorem d54 : digFn Try.prog o54 k54 Try.f54 = some c54 := by kernel_rfl
def Dg (f : Nat) : Option AFn := lookP tbl f
theorem D3 : Dg 3 = some c3 := by kernel_rfl
theorem D4 : Dg 4 = some c4 := by kernel_rfl
theorem D5 : Dg 5 = some c5 := by kernel_rfl
theorem D6 : Dg 6 = some c6 := by kernel_rfl
theorem D7 : Dg 7 = some c7 := by kernel_rfl
theorem D8 : Dg 8 = some c8 := by kernel_rfl
theorem D9 : Dg 9 = some c9 := by kernel_rfl
theorem D10 : Dg 10 = some c10 := by kernel_rfl
theorem D11 : Dg 11 = some c11 := by kernel_rfl
theorem D12 : Dg 12 = some c12 := by kernel_rfl
theorem D13 : Dg 13 = some c13 := by kernel_rfl
theorem D14 : Dg 14 = some c14 := by kernel_rfl
theorem D15 : Dg 15 = some c15 := by kernel_rfl
theorem D16 : Dg 16 = some c16 := by kernel_rfl
theorem D17 : Dg 17 = some c17 := by kernel_rfl
theorem D18 : Dg 18 = some c18 := by kernel_rfl
theorem D19 : Dg 19 = some c19 := by kernel_rfl
theorem D20 : Dg 20 = some c20 := by kernel_rfl
theorem D21 : Dg 21 = some c21 := by kernel_rfl
theorem D22 : Dg 22 = some c22 := by kernel_rfl
theorem D23 : Dg 23 = some c23 := by kernel_rfl
theorem D24 : Dg 24 = some c24 := by kernel_rfl
theorem D25 : Dg 25 = some c25 := by kernel_rfl
theorem D26 : Dg 26 = some c26 := by kernel_rfl
theorem D27 : Dg 27 = some c27 := by kernel_rfl
theorem D28 : Dg 28 = some c28 := by kernel_rfl
theorem D29 : Dg 29 = some c29 := by kernel_rfl
theorem D30 : Dg 30 = some c30 := by kernel_rfl
theorem D31 : Dg 31 = some c31 := by kernel_rfl
theorem D32 : Dg 32 = some c32 := by kernel_rfl
theorem D33 : Dg 33 = some c33 := by kernel_rfl
theorem D34 : Dg 34 = some c34 := by kernel_rfl
theorem D35 : Dg 35 = some c35 := by kernel_rfl
theorem D36 : Dg 36 = some c36 := by kernel_rfl
theorem D37 : Dg 37 = some c37 := by kernel_rfl
theorem D38 : Dg 38 = some c38 := by kernel_rfl
theorem D39 : Dg 39 = some c39 := by kernel_rfl
theorem D40 : Dg 40 = some c40 := by kernel_rfl
theorem D41 : Dg 41 = some c41 := by kernel_rfl
theorem D42 : Dg 42 = some c42 := by kernel_rfl
theorem D43 : Dg 43 = some c43 := by kernel_rfl
theorem D44 : Dg 44 = some c44 := by kernel_rfl
theorem D45 : Dg 45 = some c45 := by kernel_rfl
theorem D46 : Dg 46 = some c46 := by kernel_rfl
theorem D47 : Dg 47 = some c47 := by kernel_rfl
theorem D48 : Dg 48 = some c48 := by kernel_rfl
theorem D49 : Dg 49 = some c49 := by kernel_rfl
theorem D50 : Dg 50 = some c50 := by kernel_rfl
theorem D51 : Dg 51 = some c51 := by kernel_rfl
theorem D52 : Dg 52 = some c52 := by kernel_rfl
theorem D53 : Dg 53 = some c53 := by kernel_rfl
theorem D54 : Dg 54 = some c54 := by kernel_rfl
theorem dokL [Bs] : ∀ x ∈ tbl, FnOk Try.prog x.1 x.2 :=
  all_cons (fnok Try.func3 d3) (
  all_cons (fnok Try.func4 d4) (
  all_cons (fnok Try.func5 d5) (
  all_cons (fnok Try.func6 d6) (
  all_cons (fnok Try.func7 d7) (
  all_cons (fnok Try.func8 d8) (
  all_cons (fnok Try.func9 d9) (
  all_cons (fnok Try.func10 d10) (
  all_cons (fnok Try.func11 d11) (
  all_cons (fnok Try.func12 d12) (
  all_cons (fnok Try.func13 d13) (
  all_cons (fnok Try.func14 d14) (
  all_cons (fnok Try.func15 d15) (
  all_cons (fnok Try.func16 d16) (
  all_cons (fnok Try.func17 d17) (
  all_cons (fnok Try.func18 d18) (
  all_cons (fnok Try.func19 d19) (
  all_cons (fnok Try.func20 d20) (
  all_cons (fnok Try.func21 d21) (
  all_cons (fnok Try.func22 d22) (
  all_cons (fnok Try.func23 d23) (
  all_cons (fnok Try.func24 d24) (
  all_cons (fnok Try.func25 d25) (
  all_cons (fnok Try.func26 d26) (
  all_cons (fnok Try.func27 d27) (
  all_cons (show FnOk Try.prog 28 c28 from ext28) (
  all_cons (fnok Try.func29 d29) (
  all_cons (fnok Try.func30 d30) (
  all_cons (fnok Try.func31 d31) (
  all_cons (fnok Try.func32 d32) (
  all_cons (fnok Try.func33 d33) (
  all_cons (fnok Try.func34 d34) (
  all_cons (fnok Try.func35 d35) (
  all_cons (fnok Try.func36 d36) (
  all_cons (fnok Try.func37 d37) (
  all_cons (fnok Try.func38 d38) (
  all_cons (fnok Try.func39 d39) (
  all_cons (fnok Try.func40 d40) (
  all_cons (fnok Try.func41 d41) (
  all_cons (fnok Try.func42 d42) (
  all_cons (fnok Try.func43 d43) (
  all_cons (fnok Try.func44 d44) (
  all_cons (fnok Try.func45 d45) (
  all_cons (fnok Try.func46 d46) (
  all_cons (fnok Try.func47 d47) (
  all_cons (fnok Try.func48 d48) (
  all_cons (fnok Try.func49 d49) (
  all_cons (fnok Try.func50 d50) (
  all_cons (fnok Try.func51 d51) (
  all_cons (fnok Try.func52 d52) (
  all_cons (fnok Try.func53 d53) (
  all_cons (fnok Try.func54 d54) (
  all_nil))))))))))))))))))))))))))))))))))))))))))))))))))))
theorem dok (bs : Bs) : DOk Try.prog Dg := fun f fc h => dokL (f, fc) (lookP_mem h)

end Go.Proofs.Ytkdalahepedghaa
