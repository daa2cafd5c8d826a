/- The code of the functions, as it is read. -/
import Derived.Test.YtildbjepbnjbfaaSs
import Derived.Test.YtildbjepbnjbfaaProg
namespace Go.Proofs.Ytildbjepbnjbfaa
open Go
def c3b0 : AC := (.seq
        (.seq
         (.reg [⟨some 8, none, .mov (.t 3)⟩,
          ⟨some 9, none, .mov (.t 0)⟩,
          ⟨some 10, none, .len (.t 9)⟩,
          ⟨some 11, none, .bin .lss (.t 8) (.t 10)⟩])
         (.cond (.t 11)
          .skip
          (.exit 0)))
        (.seq
         (.block 1
          (.seq
           (.reg [⟨some 14, none, .mov (.t 0)⟩,
            ⟨some 15, none, .mov (.t 3)⟩,
            ⟨some 16, none, .iaddr (.slice 2) (.t 14) (.t 15)⟩,
            ⟨some 17, none, .load 2 true (.t 16)⟩,
            ⟨some 18, none, .call false 11 [(.t 17)]⟩,
            ⟨some 19, none, .mov (.t 0)⟩,
            ⟨some 20, none, .mov (.t 3)⟩,
            ⟨some 21, none, .iaddr (.slice 2) (.t 19) (.t 20)⟩,
            ⟨some 22, none, .load 2 true (.t 21)⟩,
            ⟨some 23, none, .call false 12 [(.t 22)]⟩,
            ⟨some 24, none, .beq true (.t 18) (.t 23)⟩])
           (.cond (.t 24)
            (.seq
             (.reg [⟨some 2, none, .mov (.c (.bool false))⟩])
             .ret)
            .skip)))
         (.reg [⟨some 12, none, .mov (.t 3)⟩,
          ⟨some 13, none, .bin .add (.t 12) (.c (.int .i64 1))⟩,
          ⟨some 3, none, .mov (.t 13)⟩])))
def c3r0 : AC := (.seq
     (.reg [⟨some 25, none, .mov (.t 0)⟩,
      ⟨some 26, none, .call false 14 [(.t 25)]⟩,
      ⟨some 27, none, .mov (.t 0)⟩,
      ⟨some 28, none, .call false 15 [(.t 27)]⟩,
      ⟨some 29, none, .call false 13 [(.t 26), (.t 28)]⟩,
      ⟨some 30, none, .mov (.t 29)⟩,
      ⟨some 31, some (30, true), .mov (.t 0)⟩,
      ⟨some 32, some (30, true), .call false 16 [(.t 31)]⟩,
      ⟨some 33, some (30, true), .mov (.t 0)⟩,
      ⟨some 34, some (30, true), .call false 17 [(.t 33)]⟩,
      ⟨some 35, some (30, true), .beq false (.t 32) (.t 34)⟩,
      ⟨some 36, none, .pick (.t 30) (.t 35) (.c (.bool false))⟩,
      ⟨some 37, none, .mov (.t 36)⟩,
      ⟨some 38, some (37, true), .mov (.t 0)⟩,
      ⟨some 39, some (37, true), .call false 18 [(.t 38)]⟩,
      ⟨some 40, some (37, true), .mov (.t 0)⟩,
      ⟨some 41, some (37, true), .call false 19 [(.t 40)]⟩,
      ⟨some 42, some (37, true), .bin .eql (.t 39) (.t 41)⟩,
      ⟨some 43, none, .pick (.t 37) (.t 42) (.c (.bool false))⟩,
      ⟨some 44, none, .mov (.t 43)⟩,
      ⟨some 45, some (44, true), .call false 10 []⟩,
      ⟨some 46, none, .pick (.t 44) (.t 45) (.c (.bool false))⟩,
      ⟨some 2, none, .mov (.t 46)⟩])
     .ret)
/-- tracebook/tracebooklaw04.SpansNormals -/
def c3 : AFn := ⟨1, 47, [.t 2],
 (.seq
  (.reg [⟨some 2, none, .mov (.c (.bool false))⟩])
  (.seq
   (.seq
    (.reg [⟨some 4, none, .mov (.t 0)⟩,
     ⟨some 5, none, .call false 9 [(.t 4), (.c .nilS)]⟩,
     ⟨some 6, none, .un .not (.t 5)⟩])
    (.cond (.t 6)
     (.seq
      (.reg [⟨some 7, none, .call false 10 []⟩,
       ⟨some 2, none, .mov (.t 7)⟩])
      .ret)
     .skip))
   (.seq
    (.seq
     (.reg [⟨some 3, none, .mov (.c (.int .i64 0))⟩])
     (.block 0
      (.loop [0, 3]
       c3b0)))
    c3r0))), none⟩
def k3 : List (List Nat) := [[0, 3]]
def o3 : List Nat := [1000028, 1000034, 1000040, 1000041, 1000042, 1000043, 1000044, 1000045, 1000046, 1000047, 1000051, 1000054, 1000055, 1000056]
/-- tracebook/tracebooklaw04.SpansCombines -/
def c4 : AFn := ⟨2, 38, [.t 4],
 (.seq
  (.reg [⟨some 4, none, .mov (.c (.bool false))⟩])
  (.seq
   (.seq
    (.reg [⟨some 5, none, .mov (.t 0)⟩,
     ⟨some 6, none, .mov (.t 1)⟩,
     ⟨some 7, none, .call false 9 [(.t 5), (.t 6)]⟩,
     ⟨some 8, none, .un .not (.t 7)⟩])
    (.cond (.t 8)
     (.seq
      (.reg [⟨some 9, none, .call false 10 []⟩,
       ⟨some 4, none, .mov (.t 9)⟩])
      .ret)
     .skip))
   (.seq
    (.reg [⟨some 10, none, .mov (.t 0)⟩,
     ⟨some 11, none, .mov (.t 1)⟩,
     ⟨some 12, none, .call false 20 [(.t 10), (.t 11)]⟩,
     ⟨some 13, none, .mov (.t 0)⟩,
     ⟨some 14, none, .mov (.t 1)⟩,
     ⟨some 15, none, .call false 21 [(.t 13), (.t 14)]⟩,
     ⟨some 16, none, .call false 13 [(.t 12), (.t 15)]⟩,
     ⟨some 17, none, .mov (.t 16)⟩,
     ⟨some 18, some (17, true), .mov (.t 0)⟩,
     ⟨some 19, some (17, true), .mov (.t 1)⟩,
     ⟨some 20, some (17, true), .call false 22 [(.t 18), (.t 19)]⟩,
     ⟨some 21, some (17, true), .mov (.t 0)⟩,
     ⟨some 22, some (17, true), .mov (.t 1)⟩,
     ⟨some 23, some (17, true), .call false 23 [(.t 21), (.t 22)]⟩,
     ⟨some 24, some (17, true), .call false 13 [(.t 20), (.t 23)]⟩,
     ⟨some 25, none, .pick (.t 17) (.t 24) (.c (.bool false))⟩,
     ⟨some 26, none, .mov (.t 25)⟩,
     ⟨some 27, some (26, true), .mov (.t 0)⟩,
     ⟨some 28, some (26, true), .mov (.t 1)⟩,
     ⟨some 29, some (26, true), .call false 24 [(.t 27), (.t 28)]⟩,
     ⟨some 30, some (26, true), .mov (.t 0)⟩,
     ⟨some 31, some (26, true), .mov (.t 1)⟩,
     ⟨some 32, some (26, true), .call false 25 [(.t 30), (.t 31)]⟩,
     ⟨some 33, some (26, true), .call false 13 [(.t 29), (.t 32)]⟩,
     ⟨some 34, none, .pick (.t 26) (.t 33) (.c (.bool false))⟩,
     ⟨some 35, none, .mov (.t 34)⟩,
     ⟨some 36, some (35, true), .call false 10 []⟩,
     ⟨some 37, none, .pick (.t 35) (.t 36) (.c (.bool false))⟩,
     ⟨some 4, none, .mov (.t 37)⟩])
    .ret))), none⟩
def k4 : List (List Nat) := []
def o4 : List Nat := [1000028, 1000034, 1000040, 1000041, 1000042, 1000043, 1000044, 1000045, 1000046, 1000047, 1000051, 1000054, 1000055, 1000056]
def c5b0 : AC := (.seq
           (.seq
            (.reg [⟨some 54, none, .mov (.t 12)⟩,
             ⟨some 55, none, .mov (.t 7)⟩,
             ⟨some 56, none, .len (.t 55)⟩,
             ⟨some 57, none, .bin .lss (.t 54) (.t 56)⟩])
            (.cond (.t 57)
             .skip
             (.exit 2)))
           (.seq
            (.block 3
             (.seq
              (.reg [⟨some 60, none, .mov (.t 0)⟩,
               ⟨some 61, none, .mov (.t 7)⟩,
               ⟨some 62, none, .mov (.t 12)⟩,
               ⟨some 63, none, .iaddr (.slice 1) (.t 61) (.t 62)⟩,
               ⟨some 64, none, .load 1 false (.t 63)⟩,
               ⟨some 65, none, .call false 26 [(.t 60), (.t 64)]⟩,
               ⟨some 66, none, .mov (.t 1)⟩,
               ⟨some 67, none, .mov (.t 7)⟩,
               ⟨some 68, none, .mov (.t 12)⟩,
               ⟨some 69, none, .iaddr (.slice 1) (.t 67) (.t 68)⟩,
               ⟨some 70, none, .load 1 false (.t 69)⟩,
               ⟨some 71, none, .call false 26 [(.t 66), (.t 70)]⟩,
               ⟨some 13, none, .mov (.t 65)⟩,
               ⟨some 14, none, .mov (.t 71)⟩])
              (.seq
               (.reg [⟨some 72, none, .mov (.t 13)⟩,
                ⟨some 73, none, .mov (.t 0)⟩,
                ⟨some 74, none, .mov (.t 7)⟩,
                ⟨some 75, none, .mov (.t 12)⟩,
                ⟨some 76, none, .iaddr (.slice 1) (.t 74) (.t 75)⟩,
                ⟨some 77, none, .load 1 false (.t 76)⟩,
                ⟨some 78, none, .call false 27 [(.t 73), (.t 77)]⟩,
                ⟨some 79, none, .beq true (.t 72) (.t 78)⟩,
                ⟨some 80, none, .mov (.t 79)⟩,
                ⟨some 81, some (80, false), .mov (.t 9)⟩,
                ⟨some 82, some (80, false), .mov (.t 7)⟩,
                ⟨some 83, some (80, false), .mov (.t 12)⟩,
                ⟨some 84, some (80, false), .iaddr (.slice 1) (.t 82) (.t 83)⟩,
                ⟨some 85, some (80, false), .load 1 false (.t 84)⟩,
                ⟨some 86, some (80, false), .call false 26 [(.t 81), (.t 85)]⟩,
                ⟨some 87, some (80, false), .mov (.t 13)⟩,
                ⟨some 88, some (80, false), .mov (.t 87)⟩,
                ⟨some 89, some (88, false), .mov (.t 14)⟩,
                ⟨some 90, some (80, false), .pick (.t 88) (.c (.bool true)) (.t 89)⟩,
                ⟨some 91, some (80, false), .beq true (.t 86) (.t 90)⟩,
                ⟨some 92, none, .pick (.t 80) (.c (.bool true)) (.t 91)⟩,
                ⟨some 93, none, .mov (.t 92)⟩,
                ⟨some 94, some (93, false), .mov (.t 10)⟩,
                ⟨some 95, some (93, false), .mov (.t 7)⟩,
                ⟨some 96, some (93, false), .mov (.t 12)⟩,
                ⟨some 97, some (93, false), .iaddr (.slice 1) (.t 95) (.t 96)⟩,
                ⟨some 98, some (93, false), .load 1 false (.t 97)⟩,
                ⟨some 99, some (93, false), .call false 26 [(.t 94), (.t 98)]⟩,
                ⟨some 100, some (93, false), .mov (.t 13)⟩,
                ⟨some 101, some (93, false), .mov (.t 100)⟩,
                ⟨some 102, some (101, true), .mov (.t 14)⟩,
                ⟨some 103, some (93, false), .pick (.t 101) (.t 102) (.c (.bool false))⟩,
                ⟨some 104, some (93, false), .beq true (.t 99) (.t 103)⟩,
                ⟨some 105, none, .pick (.t 93) (.c (.bool true)) (.t 104)⟩,
                ⟨some 106, none, .mov (.t 105)⟩,
                ⟨some 107, some (106, false), .mov (.t 11)⟩,
                ⟨some 108, some (106, false), .mov (.t 7)⟩,
                ⟨some 109, some (106, false), .mov (.t 12)⟩,
                ⟨some 110, some (106, false), .iaddr (.slice 1) (.t 108) (.t 109)⟩,
                ⟨some 111, some (106, false), .load 1 false (.t 110)⟩,
                ⟨some 112, some (106, false), .call false 26 [(.t 107), (.t 111)]⟩,
                ⟨some 113, some (106, false), .mov (.t 13)⟩,
                ⟨some 114, some (106, false), .mov (.t 113)⟩,
                ⟨some 115, some (114, true), .mov (.t 14)⟩,
                ⟨some 116, some (114, true), .un .not (.t 115)⟩,
                ⟨some 117, some (106, false), .pick (.t 114) (.t 116) (.c (.bool false))⟩,
                ⟨some 118, some (106, false), .beq true (.t 112) (.t 117)⟩,
                ⟨some 119, none, .pick (.t 106) (.c (.bool true)) (.t 118)⟩])
               (.cond (.t 119)
                (.seq
                 (.reg [⟨some 6, none, .mov (.c (.bool false))⟩])
                 .ret)
                .skip))))
            (.reg [⟨some 58, none, .mov (.t 12)⟩,
             ⟨some 59, none, .bin .add (.t 58) (.c (.int .i64 1))⟩,
             ⟨some 12, none, .mov (.t 59)⟩])))
def c5b1 : AC := (.seq
         (.seq
          (.reg [⟨some 26, none, .mov (.t 8)⟩,
           ⟨some 27, none, .mov (.t 0)⟩,
           ⟨some 28, none, .len (.t 27)⟩,
           ⟨some 29, none, .bin .lss (.t 26) (.t 28)⟩])
          (.cond (.t 29)
           .skip
           (.exit 0)))
         (.seq
          (.block 1
           (.reg [⟨some 32, none, .mov (.t 7)⟩,
            ⟨some 33, none, .mov (.t 0)⟩,
            ⟨some 34, none, .mov (.t 8)⟩,
            ⟨some 35, none, .iaddr (.slice 2) (.t 33) (.t 34)⟩,
            ⟨some 36, none, .faddr 0 (.t 35)⟩,
            ⟨some 37, none, .load 1 false (.t 36)⟩,
            ⟨some 38, none, .mov (.t 0)⟩,
            ⟨some 39, none, .mov (.t 8)⟩,
            ⟨some 40, none, .iaddr (.slice 2) (.t 38) (.t 39)⟩,
            ⟨some 41, none, .faddr 1 (.t 40)⟩,
            ⟨some 42, none, .load 1 false (.t 41)⟩,
            ⟨some 43, none, .bslice false 1 [(.int .i64 0)] 2 [(0, (.t 37)), (1, (.t 42))]⟩,
            ⟨some 44, none, .append 1 8 (.t 32) (.t 43)⟩,
            ⟨some 7, none, .mov (.t 44)⟩]))
          (.reg [⟨some 30, none, .mov (.t 8)⟩,
           ⟨some 31, none, .bin .add (.t 30) (.c (.int .i64 1))⟩,
           ⟨some 8, none, .mov (.t 31)⟩])))
def c5r0 : AC := (.seq
      (.reg [⟨some 45, none, .mov (.t 0)⟩,
       ⟨some 46, none, .mov (.t 1)⟩,
       ⟨some 47, none, .call false 20 [(.t 45), (.t 46)]⟩,
       ⟨some 48, none, .mov (.t 0)⟩,
       ⟨some 49, none, .mov (.t 1)⟩,
       ⟨some 50, none, .call false 22 [(.t 48), (.t 49)]⟩,
       ⟨some 51, none, .mov (.t 0)⟩,
       ⟨some 52, none, .mov (.t 1)⟩,
       ⟨some 53, none, .call false 24 [(.t 51), (.t 52)]⟩,
       ⟨some 9, none, .mov (.t 47)⟩,
       ⟨some 10, none, .mov (.t 50)⟩,
       ⟨some 11, none, .mov (.t 53)⟩])
      (.seq
       (.seq
        (.reg [⟨some 12, none, .mov (.c (.int .i64 0))⟩])
        (.block 2
         (.loop [0, 1, 7, 9, 10, 11, 12]
          c5b0)))
       (.seq
        (.reg [⟨some 6, none, .mov (.c (.bool true))⟩])
        .ret)))
/-- tracebook/tracebooklaw04.SpansMembers -/
def c5 : AFn := ⟨3, 120, [.t 6],
 (.seq
  (.reg [⟨some 6, none, .mov (.c (.bool false))⟩])
  (.seq
   (.seq
    (.reg [⟨some 15, none, .call false 10 []⟩,
     ⟨some 16, none, .un .not (.t 15)⟩,
     ⟨some 17, none, .mov (.t 16)⟩,
     ⟨some 18, some (17, false), .mov (.t 0)⟩,
     ⟨some 19, some (17, false), .mov (.t 1)⟩,
     ⟨some 20, some (17, false), .call false 9 [(.t 18), (.t 19)]⟩,
     ⟨some 21, some (17, false), .un .not (.t 20)⟩,
     ⟨some 22, none, .pick (.t 17) (.c (.bool true)) (.t 21)⟩])
    (.cond (.t 22)
     (.seq
      (.reg [⟨some 23, none, .call false 10 []⟩,
       ⟨some 6, none, .mov (.t 23)⟩])
      .ret)
     .skip))
   (.seq
    (.reg [⟨some 24, none, .mov (.t 2)⟩,
     ⟨some 25, none, .bslice true 1 [(.int .i64 0)] 1 [(0, (.t 24))]⟩,
     ⟨some 7, none, .mov (.t 25)⟩])
    (.seq
     (.seq
      (.reg [⟨some 8, none, .mov (.c (.int .i64 0))⟩])
      (.block 0
       (.loop [0, 1, 7, 8]
        c5b1)))
     c5r0)))), none⟩
def k5 : List (List Nat) := [[0, 1, 7, 8], [0, 1, 7, 9, 10, 11, 12]]
def o5 : List Nat := [1000028, 1000034, 1000040, 1000041, 1000042, 1000043, 1000044, 1000045, 1000046, 1000047, 1000051, 1000054, 1000055, 1000056, 25]
/-- tracebook/tracebooklaw04.SpansLengths -/
def c6 : AFn := ⟨2, 60, [.t 4],
 (.seq
  (.reg [⟨some 4, none, .mov (.c (.bool false))⟩])
  (.seq
   (.seq
    (.reg [⟨some 8, none, .call false 10 []⟩,
     ⟨some 9, none, .un .not (.t 8)⟩,
     ⟨some 10, none, .mov (.t 9)⟩,
     ⟨some 11, some (10, false), .mov (.t 0)⟩,
     ⟨some 12, some (10, false), .mov (.t 1)⟩,
     ⟨some 13, some (10, false), .call false 9 [(.t 11), (.t 12)]⟩,
     ⟨some 14, some (10, false), .un .not (.t 13)⟩,
     ⟨some 15, none, .pick (.t 10) (.c (.bool true)) (.t 14)⟩])
    (.cond (.t 15)
     (.seq
      (.reg [⟨some 16, none, .call false 10 []⟩,
       ⟨some 4, none, .mov (.t 16)⟩])
      .ret)
     .skip))
   (.seq
    (.reg [⟨some 17, none, .mov (.t 0)⟩,
     ⟨some 18, none, .mov (.t 1)⟩,
     ⟨some 19, none, .call false 20 [(.t 17), (.t 18)]⟩,
     ⟨some 20, none, .mov (.t 0)⟩,
     ⟨some 21, none, .mov (.t 1)⟩,
     ⟨some 22, none, .call false 22 [(.t 20), (.t 21)]⟩,
     ⟨some 23, none, .mov (.t 0)⟩,
     ⟨some 24, none, .mov (.t 1)⟩,
     ⟨some 25, none, .call false 24 [(.t 23), (.t 24)]⟩,
     ⟨some 5, none, .mov (.t 19)⟩,
     ⟨some 6, none, .mov (.t 22)⟩,
     ⟨some 7, none, .mov (.t 25)⟩])
    (.seq
     (.seq
      (.reg [⟨some 26, none, .mov (.t 5)⟩,
       ⟨some 27, none, .call false 16 [(.t 26)]⟩,
       ⟨some 28, none, .un .not (.t 27)⟩,
       ⟨some 29, none, .mov (.t 28)⟩,
       ⟨some 30, some (29, false), .mov (.t 6)⟩,
       ⟨some 31, some (29, false), .call false 16 [(.t 30)]⟩,
       ⟨some 32, some (29, false), .un .not (.t 31)⟩,
       ⟨some 33, none, .pick (.t 29) (.c (.bool true)) (.t 32)⟩,
       ⟨some 34, none, .mov (.t 33)⟩,
       ⟨some 35, some (34, false), .mov (.t 7)⟩,
       ⟨some 36, some (34, false), .call false 16 [(.t 35)]⟩,
       ⟨some 37, some (34, false), .un .not (.t 36)⟩,
       ⟨some 38, none, .pick (.t 34) (.c (.bool true)) (.t 37)⟩])
      (.cond (.t 38)
       (.seq
        (.reg [⟨some 4, none, .mov (.c (.bool false))⟩])
        .ret)
       .skip))
     (.seq
      (.reg [⟨some 39, none, .mov (.t 5)⟩,
       ⟨some 40, none, .call false 18 [(.t 39)]⟩,
       ⟨some 41, none, .mov (.t 6)⟩,
       ⟨some 42, none, .call false 18 [(.t 41)]⟩,
       ⟨some 43, none, .bin .add (.t 40) (.t 42)⟩,
       ⟨some 44, none, .mov (.t 0)⟩,
       ⟨some 45, none, .call false 18 [(.t 44)]⟩,
       ⟨some 46, none, .mov (.t 1)⟩,
       ⟨some 47, none, .call false 18 [(.t 46)]⟩,
       ⟨some 48, none, .bin .add (.t 45) (.t 47)⟩,
       ⟨some 49, none, .bin .eql (.t 43) (.t 48)⟩,
       ⟨some 50, none, .mov (.t 49)⟩,
       ⟨some 51, some (50, true), .mov (.t 7)⟩,
       ⟨some 52, some (50, true), .call false 18 [(.t 51)]⟩,
       ⟨some 53, some (50, true), .mov (.t 6)⟩,
       ⟨some 54, some (50, true), .call false 18 [(.t 53)]⟩,
       ⟨some 55, some (50, true), .bin .add (.t 52) (.t 54)⟩,
       ⟨some 56, some (50, true), .mov (.t 0)⟩,
       ⟨some 57, some (50, true), .call false 18 [(.t 56)]⟩,
       ⟨some 58, some (50, true), .bin .eql (.t 55) (.t 57)⟩,
       ⟨some 59, none, .pick (.t 50) (.t 58) (.c (.bool false))⟩,
       ⟨some 4, none, .mov (.t 59)⟩])
      .ret))))), none⟩
def k6 : List (List Nat) := []
def o6 : List Nat := [1000028, 1000034, 1000040, 1000041, 1000042, 1000043, 1000044, 1000045, 1000046, 1000047, 1000051, 1000054, 1000055, 1000056]
/-- tracebook/tracebooklaw04.SpansParts -/
def c7 : AFn := ⟨2, 42, [.t 4],
 (.seq
  (.reg [⟨some 4, none, .mov (.c (.bool false))⟩])
  (.seq
   (.seq
    (.reg [⟨some 7, none, .call false 10 []⟩,
     ⟨some 8, none, .un .not (.t 7)⟩,
     ⟨some 9, none, .mov (.t 8)⟩,
     ⟨some 10, some (9, false), .mov (.t 0)⟩,
     ⟨some 11, some (9, false), .mov (.t 1)⟩,
     ⟨some 12, some (9, false), .call false 9 [(.t 10), (.t 11)]⟩,
     ⟨some 13, some (9, false), .un .not (.t 12)⟩,
     ⟨some 14, none, .pick (.t 9) (.c (.bool true)) (.t 13)⟩])
    (.cond (.t 14)
     (.seq
      (.reg [⟨some 15, none, .call false 10 []⟩,
       ⟨some 4, none, .mov (.t 15)⟩])
      .ret)
     .skip))
   (.seq
    (.reg [⟨some 16, none, .mov (.t 0)⟩,
     ⟨some 17, none, .mov (.t 1)⟩,
     ⟨some 18, none, .call false 22 [(.t 16), (.t 17)]⟩,
     ⟨some 19, none, .mov (.t 0)⟩,
     ⟨some 20, none, .mov (.t 1)⟩,
     ⟨some 21, none, .call false 24 [(.t 19), (.t 20)]⟩,
     ⟨some 5, none, .mov (.t 18)⟩,
     ⟨some 6, none, .mov (.t 21)⟩])
    (.seq
     (.reg [⟨some 22, none, .mov (.t 5)⟩,
      ⟨some 23, none, .mov (.t 6)⟩,
      ⟨some 24, none, .call false 22 [(.t 22), (.t 23)]⟩,
      ⟨some 25, none, .len (.t 24)⟩,
      ⟨some 26, none, .bin .eql (.t 25) (.c (.int .i64 0))⟩,
      ⟨some 27, none, .mov (.t 26)⟩,
      ⟨some 28, some (27, true), .mov (.t 5)⟩,
      ⟨some 29, some (27, true), .mov (.t 6)⟩,
      ⟨some 30, some (27, true), .call false 20 [(.t 28), (.t 29)]⟩,
      ⟨some 31, some (27, true), .mov (.t 0)⟩,
      ⟨some 32, some (27, true), .call false 14 [(.t 31)]⟩,
      ⟨some 33, some (27, true), .call false 13 [(.t 30), (.t 32)]⟩,
      ⟨some 34, none, .pick (.t 27) (.t 33) (.c (.bool false))⟩,
      ⟨some 35, none, .mov (.t 34)⟩,
      ⟨some 36, some (35, true), .mov (.t 1)⟩,
      ⟨some 37, some (35, true), .mov (.t 0)⟩,
      ⟨some 38, some (35, true), .call false 22 [(.t 36), (.t 37)]⟩,
      ⟨some 39, some (35, true), .mov (.t 5)⟩,
      ⟨some 40, some (35, true), .call false 13 [(.t 38), (.t 39)]⟩,
      ⟨some 41, none, .pick (.t 35) (.t 40) (.c (.bool false))⟩,
      ⟨some 4, none, .mov (.t 41)⟩])
     .ret)))), none⟩
def k7 : List (List Nat) := []
def o7 : List Nat := [1000028, 1000034, 1000040, 1000041, 1000042, 1000043, 1000044, 1000045, 1000046, 1000047, 1000051, 1000054, 1000055, 1000056]
def c8b0 : AC := (.seq
          (.seq
           (.reg [⟨some 19, none, .mov (.t 5)⟩,
            ⟨some 20, none, .bin .geq (.t 19) (.c (.int .i64 0))⟩])
           (.cond (.t 20)
            .skip
            (.exit 0)))
          (.seq
           (.block 1
            (.reg [⟨some 23, none, .mov (.t 4)⟩,
             ⟨some 24, none, .mov (.t 0)⟩,
             ⟨some 25, none, .mov (.t 5)⟩,
             ⟨some 26, none, .iaddr (.slice 2) (.t 24) (.t 25)⟩,
             ⟨some 27, none, .load 2 true (.t 26)⟩,
             ⟨some 28, none, .mov (.t 0)⟩,
             ⟨some 29, none, .mov (.t 5)⟩,
             ⟨some 30, none, .iaddr (.slice 2) (.t 28) (.t 29)⟩,
             ⟨some 31, none, .load 2 true (.t 30)⟩,
             ⟨some 32, none, .bslice false 2 [(.int .i64 0), (.int .i64 0)] 2 [(0, (.t 27)), (1, (.t 31))]⟩,
             ⟨some 33, none, .append 2 16 (.t 23) (.t 32)⟩,
             ⟨some 4, none, .mov (.t 33)⟩]))
           (.reg [⟨some 21, none, .mov (.t 5)⟩,
            ⟨some 22, none, .bin .sub (.t 21) (.c (.int .i64 1))⟩,
            ⟨some 5, none, .mov (.t 22)⟩])))
def c8r0 : AC := (.seq
       (.reg [⟨some 34, none, .mov (.t 3)⟩,
        ⟨some 35, none, .call false 16 [(.t 34)]⟩,
        ⟨some 36, none, .mov (.t 35)⟩,
        ⟨some 37, some (36, true), .mov (.t 3)⟩,
        ⟨some 38, some (36, true), .call false 14 [(.t 37)]⟩,
        ⟨some 39, some (36, true), .mov (.t 3)⟩,
        ⟨some 40, some (36, true), .call false 13 [(.t 38), (.t 39)]⟩,
        ⟨some 41, none, .pick (.t 36) (.t 40) (.c (.bool false))⟩,
        ⟨some 42, none, .mov (.t 41)⟩,
        ⟨some 43, some (42, true), .mov (.t 4)⟩,
        ⟨some 44, some (42, true), .call false 14 [(.t 43)]⟩,
        ⟨some 45, some (42, true), .mov (.t 3)⟩,
        ⟨some 46, some (42, true), .call false 13 [(.t 44), (.t 45)]⟩,
        ⟨some 47, none, .pick (.t 42) (.t 46) (.c (.bool false))⟩,
        ⟨some 48, none, .mov (.t 47)⟩,
        ⟨some 49, some (48, true), .mov (.t 0)⟩,
        ⟨some 50, some (48, true), .call false 16 [(.t 49)]⟩,
        ⟨some 51, some (48, true), .mov (.t 3)⟩,
        ⟨some 52, some (48, true), .mov (.t 0)⟩,
        ⟨some 53, some (48, true), .call false 13 [(.t 51), (.t 52)]⟩,
        ⟨some 54, some (48, true), .beq false (.t 50) (.t 53)⟩,
        ⟨some 55, none, .pick (.t 48) (.t 54) (.c (.bool false))⟩,
        ⟨some 2, none, .mov (.t 55)⟩])
       .ret)
/-- tracebook/tracebooklaw04.SpansStable -/
def c8 : AFn := ⟨1, 56, [.t 2],
 (.seq
  (.reg [⟨some 2, none, .mov (.c (.bool false))⟩])
  (.seq
   (.seq
    (.reg [⟨some 6, none, .call false 10 []⟩,
     ⟨some 7, none, .un .not (.t 6)⟩,
     ⟨some 8, none, .mov (.t 7)⟩,
     ⟨some 9, some (8, false), .mov (.t 0)⟩,
     ⟨some 10, some (8, false), .call false 9 [(.t 9), (.c .nilS)]⟩,
     ⟨some 11, some (8, false), .un .not (.t 10)⟩,
     ⟨some 12, none, .pick (.t 8) (.c (.bool true)) (.t 11)⟩])
    (.cond (.t 12)
     (.seq
      (.reg [⟨some 13, none, .call false 10 []⟩,
       ⟨some 2, none, .mov (.t 13)⟩])
      .ret)
     .skip))
   (.seq
    (.reg [⟨some 14, none, .mov (.t 0)⟩,
     ⟨some 15, none, .call false 14 [(.t 14)]⟩,
     ⟨some 3, none, .mov (.t 15)⟩])
    (.seq
     (.reg [⟨some 4, none, .nilv 2⟩])
     (.seq
      (.seq
       (.reg [⟨some 16, none, .mov (.t 0)⟩,
        ⟨some 17, none, .len (.t 16)⟩,
        ⟨some 18, none, .bin .sub (.t 17) (.c (.int .i64 1))⟩,
        ⟨some 5, none, .mov (.t 18)⟩])
       (.block 0
        (.loop [0, 3, 4, 5]
         c8b0)))
      c8r0))))), none⟩
def k8 : List (List Nat) := [[0, 3, 4, 5]]
def o8 : List Nat := [1000028, 1000034, 1000040, 1000041, 1000042, 1000043, 1000044, 1000045, 1000046, 1000047, 1000051, 1000054, 1000055, 1000056]
/-- tracebook/tracebooklaw04.few -/
def c9 : AFn := ⟨2, 13, [.t 4],
 (.seq
  (.reg [⟨some 4, none, .mov (.c (.bool false))⟩])
  (.seq
   (.reg [⟨some 5, none, .mov (.t 0)⟩,
    ⟨some 6, none, .len (.t 5)⟩,
    ⟨some 7, none, .bin .leq (.t 6) (.c (.int .i64 25))⟩,
    ⟨some 8, none, .mov (.t 7)⟩,
    ⟨some 9, some (8, true), .mov (.t 1)⟩,
    ⟨some 10, some (8, true), .len (.t 9)⟩,
    ⟨some 11, some (8, true), .bin .leq (.t 10) (.c (.int .i64 25))⟩,
    ⟨some 12, none, .pick (.t 8) (.t 11) (.c (.bool false))⟩,
    ⟨some 4, none, .mov (.t 12)⟩])
   .ret)), none⟩
def k9 : List (List Nat) := []
def o9 : List Nat := [1000028, 1000034, 1000040, 1000041, 1000042, 1000043, 1000044, 1000045, 1000046, 1000047, 1000051, 1000054, 1000055, 1000056]
/-- tracebook/tracebooklaw04.awake -/
def c10 : AFn := ⟨0, 48, [.t 0],
 (.seq
  (.reg [⟨some 0, none, .mov (.c (.bool false))⟩])
  (.seq
   (.reg [⟨some 3, none, .build [(.int .i64 0), (.int .i64 0)] [(0, 1, (.c (.int .i64 5))), (1, 1, (.c (.int .i64 9)))]⟩,
    ⟨some 4, none, .build [(.int .i64 0), (.int .i64 0)] [(0, 1, (.c (.int .i64 1))), (1, 1, (.c (.int .i64 3)))]⟩,
    ⟨some 5, none, .build [(.int .i64 0), (.int .i64 0)] [(0, 1, (.c (.int .i64 3))), (1, 1, (.c (.int .i64 5)))]⟩,
    ⟨some 6, none, .bslice false 2 [(.int .i64 0), (.int .i64 0)] 3 [(0, (.t 3)), (1, (.t 4)), (2, (.t 5))]⟩,
    ⟨some 7, none, .call false 14 [(.t 6)]⟩,
    ⟨some 1, none, .mov (.t 7)⟩])
   (.seq
    (.reg [⟨some 8, none, .build [(.int .i64 0), (.int .i64 0)] [(0, 1, (.c (.int .i64 0))), (1, 1, (.c (.int .i64 10)))]⟩,
     ⟨some 9, none, .bslice false 2 [(.int .i64 0), (.int .i64 0)] 1 [(0, (.t 8))]⟩,
     ⟨some 10, none, .build [(.int .i64 0), (.int .i64 0)] [(0, 1, (.c (.int .i64 2))), (1, 1, (.c (.int .i64 3)))]⟩,
     ⟨some 11, none, .build [(.int .i64 0), (.int .i64 0)] [(0, 1, (.c (.int .i64 5))), (1, 1, (.c (.int .i64 7)))]⟩,
     ⟨some 12, none, .bslice false 2 [(.int .i64 0), (.int .i64 0)] 2 [(0, (.t 10)), (1, (.t 11))]⟩,
     ⟨some 13, none, .call false 24 [(.t 9), (.t 12)]⟩,
     ⟨some 2, none, .mov (.t 13)⟩])
    (.seq
     (.reg [⟨some 14, none, .mov (.t 1)⟩,
      ⟨some 15, none, .build [(.int .i64 0), (.int .i64 0)] [(0, 1, (.c (.int .i64 1))), (1, 1, (.c (.int .i64 9)))]⟩,
      ⟨some 16, none, .bslice false 2 [(.int .i64 0), (.int .i64 0)] 1 [(0, (.t 15))]⟩,
      ⟨some 17, none, .call false 13 [(.t 14), (.t 16)]⟩,
      ⟨some 18, none, .mov (.t 17)⟩,
      ⟨some 19, some (18, true), .mov (.t 2)⟩,
      ⟨some 20, some (18, true), .build [(.int .i64 0), (.int .i64 0)] [(0, 1, (.c (.int .i64 0))), (1, 1, (.c (.int .i64 2)))]⟩,
      ⟨some 21, some (18, true), .build [(.int .i64 0), (.int .i64 0)] [(0, 1, (.c (.int .i64 3))), (1, 1, (.c (.int .i64 5)))]⟩,
      ⟨some 22, some (18, true), .build [(.int .i64 0), (.int .i64 0)] [(0, 1, (.c (.int .i64 7))), (1, 1, (.c (.int .i64 10)))]⟩,
      ⟨some 23, some (18, true), .bslice false 2 [(.int .i64 0), (.int .i64 0)] 3 [(0, (.t 20)), (1, (.t 21)), (2, (.t 22))]⟩,
      ⟨some 24, some (18, true), .call false 13 [(.t 19), (.t 23)]⟩,
      ⟨some 25, none, .pick (.t 18) (.t 24) (.c (.bool false))⟩,
      ⟨some 26, none, .mov (.t 25)⟩,
      ⟨some 27, some (26, true), .mov (.t 2)⟩,
      ⟨some 28, some (26, true), .call false 18 [(.t 27)]⟩,
      ⟨some 29, some (26, true), .bin .eql (.t 28) (.c (.int .i64 7))⟩,
      ⟨some 30, none, .pick (.t 26) (.t 29) (.c (.bool false))⟩,
      ⟨some 31, none, .mov (.t 30)⟩,
      ⟨some 32, some (31, true), .mov (.t 2)⟩,
      ⟨some 33, some (31, true), .call false 26 [(.t 32), (.c (.int .i64 4))]⟩,
      ⟨some 34, none, .pick (.t 31) (.t 33) (.c (.bool false))⟩,
      ⟨some 35, none, .mov (.t 34)⟩,
      ⟨some 36, some (35, true), .mov (.t 2)⟩,
      ⟨some 37, some (35, true), .call false 26 [(.t 36), (.c (.int .i64 5))]⟩,
      ⟨some 38, some (35, true), .un .not (.t 37)⟩,
      ⟨some 39, none, .pick (.t 35) (.t 38) (.c (.bool false))⟩,
      ⟨some 40, none, .mov (.t 39)⟩,
      ⟨some 41, some (40, true), .call false 16 [(.c .nilS)]⟩,
      ⟨some 42, none, .pick (.t 40) (.t 41) (.c (.bool false))⟩,
      ⟨some 43, none, .mov (.t 42)⟩,
      ⟨some 44, some (43, true), .build [(.int .i64 0), (.int .i64 0)] [(0, 1, (.c (.int .i64 3))), (1, 1, (.c (.int .i64 3)))]⟩,
      ⟨some 45, some (43, true), .call false 11 [(.t 44)]⟩,
      ⟨some 46, some (43, true), .un .not (.t 45)⟩,
      ⟨some 47, none, .pick (.t 43) (.t 46) (.c (.bool false))⟩,
      ⟨some 0, none, .mov (.t 47)⟩])
     .ret)))), none⟩
def k10 : List (List Nat) := []
def o10 : List Nat := [1000028, 1000034, 1000040, 1000041, 1000042, 1000043, 1000044, 1000045, 1000046, 1000047, 1000051, 1000054, 1000055, 1000056]
/-- tracebook/spans.Valid -/
def c11 : AFn := ⟨1, 18, [.t 2],
 (.seq
  (.reg [⟨some 1, none, .box (.t 0)⟩,
   ⟨some 2, none, .mov (.c (.bool false))⟩])
  (.seq
   (.reg [⟨some 3, none, .faddr 0 (.t 1)⟩,
    ⟨some 4, none, .load 1 false (.t 3)⟩,
    ⟨some 5, none, .bin .leq (.c (.int .i64 0)) (.t 4)⟩,
    ⟨some 6, none, .mov (.t 5)⟩,
    ⟨some 7, some (6, true), .faddr 0 (.t 1)⟩,
    ⟨some 8, some (6, true), .load 1 false (.t 7)⟩,
    ⟨some 9, some (6, true), .faddr 1 (.t 1)⟩,
    ⟨some 10, some (6, true), .load 1 false (.t 9)⟩,
    ⟨some 11, some (6, true), .bin .lss (.t 8) (.t 10)⟩,
    ⟨some 12, none, .pick (.t 6) (.t 11) (.c (.bool false))⟩,
    ⟨some 13, none, .mov (.t 12)⟩,
    ⟨some 14, some (13, true), .faddr 1 (.t 1)⟩,
    ⟨some 15, some (13, true), .load 1 false (.t 14)⟩,
    ⟨some 16, some (13, true), .bin .leq (.t 15) (.c (.int .i64 1000000000000))⟩,
    ⟨some 17, none, .pick (.t 13) (.t 16) (.c (.bool false))⟩,
    ⟨some 2, none, .mov (.t 17)⟩])
   .ret)), none⟩
def k11 : List (List Nat) := []
def o11 : List Nat := [1000028, 1000034, 1000040, 1000041, 1000042, 1000043, 1000044, 1000045, 1000046, 1000047, 1000051, 1000054, 1000055, 1000056]
/-- tracebook/tracebookref04.Valid -/
def c12 : AFn := ⟨1, 18, [.t 2],
 (.seq
  (.reg [⟨some 1, none, .box (.t 0)⟩,
   ⟨some 2, none, .mov (.c (.bool false))⟩])
  (.seq
   (.reg [⟨some 3, none, .faddr 0 (.t 1)⟩,
    ⟨some 4, none, .load 1 false (.t 3)⟩,
    ⟨some 5, none, .bin .geq (.t 4) (.c (.int .i64 0))⟩,
    ⟨some 6, none, .mov (.t 5)⟩,
    ⟨some 7, some (6, true), .faddr 0 (.t 1)⟩,
    ⟨some 8, some (6, true), .load 1 false (.t 7)⟩,
    ⟨some 9, some (6, true), .faddr 1 (.t 1)⟩,
    ⟨some 10, some (6, true), .load 1 false (.t 9)⟩,
    ⟨some 11, some (6, true), .bin .lss (.t 8) (.t 10)⟩,
    ⟨some 12, none, .pick (.t 6) (.t 11) (.c (.bool false))⟩,
    ⟨some 13, none, .mov (.t 12)⟩,
    ⟨some 14, some (13, true), .faddr 1 (.t 1)⟩,
    ⟨some 15, some (13, true), .load 1 false (.t 14)⟩,
    ⟨some 16, some (13, true), .bin .leq (.t 15) (.c (.int .i64 1000000000000))⟩,
    ⟨some 17, none, .pick (.t 13) (.t 16) (.c (.bool false))⟩,
    ⟨some 2, none, .mov (.t 17)⟩])
   .ret)), none⟩
def k12 : List (List Nat) := []
def o12 : List Nat := [1000028, 1000034, 1000040, 1000041, 1000042, 1000043, 1000044, 1000045, 1000046, 1000047, 1000051, 1000054, 1000055, 1000056]
def c13b0 : AC := (.seq
        (.seq
         (.reg [⟨some 11, none, .mov (.t 5)⟩,
          ⟨some 12, none, .mov (.t 0)⟩,
          ⟨some 13, none, .len (.t 12)⟩,
          ⟨some 14, none, .bin .lss (.t 11) (.t 13)⟩])
         (.cond (.t 14)
          .skip
          (.exit 0)))
        (.seq
         (.block 1
          (.seq
           (.reg [⟨some 17, none, .mov (.t 0)⟩,
            ⟨some 18, none, .mov (.t 5)⟩,
            ⟨some 19, none, .iaddr (.slice 2) (.t 17) (.t 18)⟩,
            ⟨some 20, none, .load 2 true (.t 19)⟩,
            ⟨some 21, none, .mov (.t 1)⟩,
            ⟨some 22, none, .mov (.t 5)⟩,
            ⟨some 23, none, .iaddr (.slice 2) (.t 21) (.t 22)⟩,
            ⟨some 24, none, .load 2 true (.t 23)⟩,
            ⟨some 25, none, .beqA true [.i, .i] (.t 20) (.t 24)⟩])
           (.cond (.t 25)
            (.seq
             (.reg [⟨some 4, none, .mov (.c (.bool false))⟩])
             .ret)
            .skip)))
         (.reg [⟨some 15, none, .mov (.t 5)⟩,
          ⟨some 16, none, .bin .add (.t 15) (.c (.int .i64 1))⟩,
          ⟨some 5, none, .mov (.t 16)⟩])))
/-- tracebook/tracebookref04.Same -/
def c13 : AFn := ⟨2, 26, [.t 4],
 (.seq
  (.reg [⟨some 4, none, .mov (.c (.bool false))⟩])
  (.seq
   (.seq
    (.reg [⟨some 6, none, .mov (.t 0)⟩,
     ⟨some 7, none, .len (.t 6)⟩,
     ⟨some 8, none, .mov (.t 1)⟩,
     ⟨some 9, none, .len (.t 8)⟩,
     ⟨some 10, none, .bin .neq (.t 7) (.t 9)⟩])
    (.cond (.t 10)
     (.seq
      (.reg [⟨some 4, none, .mov (.c (.bool false))⟩])
      .ret)
     .skip))
   (.seq
    (.seq
     (.reg [⟨some 5, none, .mov (.c (.int .i64 0))⟩])
     (.block 0
      (.loop [0, 1, 5]
       c13b0)))
    (.seq
     (.reg [⟨some 4, none, .mov (.c (.bool true))⟩])
     .ret)))), none⟩
def k13 : List (List Nat) := [[0, 1, 5]]
def o13 : List Nat := [1000028, 1000034, 1000040, 1000041, 1000042, 1000043, 1000044, 1000045, 1000046, 1000047, 1000051, 1000054, 1000055, 1000056]
def c14b0 : AC := (.seq
           (.reg [⟨some 28, none, .bin .lss (.t 27) (.t 26)⟩])
           (.seq
            (.cond (.t 28)
             .skip
             (.exit 2))
            (.seq
             (.block 3
              (.seq
               (.reg [⟨some 29, none, .iaddr (.slice 2) (.t 25) (.t 27)⟩,
                ⟨some 30, none, .load 2 true (.t 29)⟩,
                ⟨some 8, none, .alloc [(.int .i64 0), (.int .i64 0)]⟩,
                ⟨none, none, .store 2 (.t 8) (.t 30)⟩])
               (.seq
                (.reg [⟨some 31, none, .mov (.t 6)⟩,
                 ⟨some 32, none, .len (.t 31)⟩,
                 ⟨some 33, none, .bin .sub (.t 32) (.c (.int .i64 1))⟩,
                 ⟨some 9, none, .mov (.t 33)⟩])
                (.seq
                 (.reg [⟨some 34, none, .mov (.t 9)⟩,
                  ⟨some 35, none, .bin .geq (.t 34) (.c (.int .i64 0))⟩,
                  ⟨some 36, none, .mov (.t 35)⟩,
                  ⟨some 37, some (36, true), .faddr 0 (.t 8)⟩,
                  ⟨some 38, some (36, true), .load 1 false (.t 37)⟩,
                  ⟨some 39, some (36, true), .mov (.t 6)⟩,
                  ⟨some 40, some (36, true), .mov (.t 9)⟩,
                  ⟨some 41, some (36, true), .iaddr (.slice 2) (.t 39) (.t 40)⟩,
                  ⟨some 42, some (36, true), .faddr 1 (.t 41)⟩,
                  ⟨some 43, some (36, true), .load 1 false (.t 42)⟩,
                  ⟨some 44, some (36, true), .bin .leq (.t 38) (.t 43)⟩,
                  ⟨some 45, none, .pick (.t 36) (.t 44) (.c (.bool false))⟩])
                 (.cond (.t 45)
                  (.reg [⟨some 46, none, .mov (.t 6)⟩,
                   ⟨some 47, none, .mov (.t 9)⟩,
                   ⟨some 48, none, .mov (.t 6)⟩,
                   ⟨some 49, none, .mov (.t 9)⟩,
                   ⟨some 50, none, .iaddr (.slice 2) (.t 48) (.t 49)⟩,
                   ⟨some 51, none, .faddr 1 (.t 50)⟩,
                   ⟨some 52, none, .load 1 false (.t 51)⟩,
                   ⟨some 53, none, .faddr 1 (.t 8)⟩,
                   ⟨some 54, none, .load 1 false (.t 53)⟩,
                   ⟨some 55, none, .max [(.t 52), (.t 54)]⟩,
                   ⟨some 56, none, .iaddr (.slice 2) (.t 46) (.t 47)⟩,
                   ⟨some 57, none, .faddr 1 (.t 56)⟩,
                   ⟨none, none, .store 1 (.t 57) (.t 55)⟩])
                  (.reg [⟨some 58, none, .mov (.t 6)⟩,
                   ⟨some 59, none, .load 2 true (.t 8)⟩,
                   ⟨some 60, none, .bslice false 2 [(.int .i64 0), (.int .i64 0)] 1 [(0, (.t 59))]⟩,
                   ⟨some 61, none, .append 2 16 (.t 58) (.t 60)⟩,
                   ⟨some 6, none, .mov (.t 61)⟩]))))))
             (.reg [⟨some 62, none, .bin .add (.t 27) (.c (.int .i64 1))⟩,
              ⟨some 27, none, .mov (.t 62)⟩]))))
def c14b1 : AC := (.seq
        (.reg [⟨some 13, none, .bin .lss (.t 12) (.t 11)⟩])
        (.seq
         (.cond (.t 13)
          .skip
          (.exit 0))
         (.seq
          (.block 1
           (.seq
            (.reg [⟨some 14, none, .iaddr (.slice 2) (.t 10) (.t 12)⟩,
             ⟨some 15, none, .load 2 true (.t 14)⟩,
             ⟨some 5, none, .alloc [(.int .i64 0), (.int .i64 0)]⟩,
             ⟨none, none, .store 2 (.t 5) (.t 15)⟩])
            (.seq
             (.reg [⟨some 16, none, .load 2 true (.t 5)⟩,
              ⟨some 17, none, .call false 11 [(.t 16)]⟩])
             (.cond (.t 17)
              (.reg [⟨some 18, none, .mov (.t 3)⟩,
               ⟨some 19, none, .load 2 true (.t 5)⟩,
               ⟨some 20, none, .bslice false 2 [(.int .i64 0), (.int .i64 0)] 1 [(0, (.t 19))]⟩,
               ⟨some 21, none, .append 2 16 (.t 18) (.t 20)⟩,
               ⟨some 3, none, .mov (.t 21)⟩])
              .skip))))
          (.reg [⟨some 22, none, .bin .add (.t 12) (.c (.int .i64 1))⟩,
           ⟨some 12, none, .mov (.t 22)⟩]))))
def c14r0 : AC := (.seq
     (.reg [⟨some 23, none, .mov (.t 3)⟩,
      ⟨some 24, none, .callS 28 [(.t 23), (.c (.fn 29 []))]⟩])
     (.seq
      (.reg [⟨some 6, none, .nilv 2⟩])
      (.seq
       (.seq
        (.reg [⟨some 25, none, .mov (.t 3)⟩,
         ⟨some 26, none, .len (.t 25)⟩,
         ⟨some 27, none, .mov (.c (.int .i64 0))⟩])
        (.block 2
         (.loop [6, 25, 26, 27]
          c14b0)))
       (.seq
        (.reg [⟨some 63, none, .mov (.t 6)⟩,
         ⟨some 2, none, .mov (.t 63)⟩])
        .ret))))
/-- tracebook/spans.Normal -/
def c14 : AFn := ⟨1, 64, [.t 2],
 (.seq
  (.reg [⟨some 2, none, .nilv 2⟩])
  (.seq
   (.reg [⟨some 3, none, .nilv 2⟩])
   (.seq
    (.seq
     (.reg [⟨some 10, none, .mov (.t 0)⟩,
      ⟨some 11, none, .len (.t 10)⟩,
      ⟨some 12, none, .mov (.c (.int .i64 0))⟩])
     (.block 0
      (.loop [3, 10, 11, 12]
       c14b1)))
    c14r0))), none⟩
def k14 : List (List Nat) := [[3, 10, 11, 12], [6, 25, 26, 27]]
def o14 : List Nat := [1000028, 1000034, 1000040, 1000041, 1000042, 1000043, 1000044, 1000045, 1000046, 1000047, 1000051, 1000054, 1000055, 1000056]
/-- tracebook/tracebookref04.Normal -/
def c15 : AFn := ⟨1, 5, [.t 2],
 (.seq
  (.reg [⟨some 2, none, .nilv 2⟩])
  (.seq
   (.reg [⟨some 3, none, .mov (.t 0)⟩,
    ⟨some 4, none, .call false 31 [(.t 3), (.c .nilS), (.c (.int .i64 1))]⟩,
    ⟨some 2, none, .mov (.t 4)⟩])
   .ret)), none⟩
def k15 : List (List Nat) := []
def o15 : List Nat := [1000028, 1000034, 1000040, 1000041, 1000042, 1000043, 1000044, 1000045, 1000046, 1000047, 1000051, 1000054, 1000055, 1000056]
def c16b0 : AC := (.seq
       (.reg [⟨some 8, none, .bin .lss (.t 7) (.t 6)⟩])
       (.seq
        (.cond (.t 8)
         .skip
         (.exit 0))
        (.seq
         (.block 1
          (.seq
           (.reg [⟨some 9, none, .mov (.t 7)⟩,
            ⟨some 10, none, .iaddr (.slice 2) (.t 5) (.t 7)⟩,
            ⟨some 11, none, .load 2 true (.t 10)⟩,
            ⟨some 4, none, .alloc [(.int .i64 0), (.int .i64 0)]⟩,
            ⟨some 3, none, .mov (.t 9)⟩,
            ⟨none, none, .store 2 (.t 4) (.t 11)⟩])
           (.seq
            (.reg [⟨some 12, none, .load 2 true (.t 4)⟩,
             ⟨some 13, none, .call false 11 [(.t 12)]⟩,
             ⟨some 14, none, .un .not (.t 13)⟩,
             ⟨some 15, none, .mov (.t 14)⟩,
             ⟨some 16, some (15, false), .mov (.t 3)⟩,
             ⟨some 17, some (15, false), .bin .gtr (.t 16) (.c (.int .i64 0))⟩,
             ⟨some 18, some (15, false), .mov (.t 17)⟩,
             ⟨some 19, some (18, true), .mov (.t 0)⟩,
             ⟨some 20, some (18, true), .mov (.t 3)⟩,
             ⟨some 21, some (18, true), .bin .sub (.t 20) (.c (.int .i64 1))⟩,
             ⟨some 22, some (18, true), .iaddr (.slice 2) (.t 19) (.t 21)⟩,
             ⟨some 23, some (18, true), .faddr 1 (.t 22)⟩,
             ⟨some 24, some (18, true), .load 1 false (.t 23)⟩,
             ⟨some 25, some (18, true), .faddr 0 (.t 4)⟩,
             ⟨some 26, some (18, true), .load 1 false (.t 25)⟩,
             ⟨some 27, some (18, true), .bin .geq (.t 24) (.t 26)⟩,
             ⟨some 28, some (15, false), .pick (.t 18) (.t 27) (.c (.bool false))⟩,
             ⟨some 29, none, .pick (.t 15) (.c (.bool true)) (.t 28)⟩])
            (.cond (.t 29)
             (.seq
              (.reg [⟨some 2, none, .mov (.c (.bool false))⟩])
              .ret)
             .skip))))
         (.reg [⟨some 30, none, .bin .add (.t 7) (.c (.int .i64 1))⟩,
          ⟨some 7, none, .mov (.t 30)⟩]))))
/-- tracebook/spans.IsNormal -/
def c16 : AFn := ⟨1, 31, [.t 2],
 (.seq
  (.reg [⟨some 2, none, .mov (.c (.bool false))⟩])
  (.seq
   (.seq
    (.reg [⟨some 5, none, .mov (.t 0)⟩,
     ⟨some 6, none, .len (.t 5)⟩,
     ⟨some 7, none, .mov (.c (.int .i64 0))⟩])
    (.block 0
     (.loop [0, 5, 6, 7]
      c16b0)))
   (.seq
    (.reg [⟨some 2, none, .mov (.c (.bool true))⟩])
    .ret))), none⟩
def k16 : List (List Nat) := [[0, 5, 6, 7]]
def o16 : List Nat := [1000028, 1000034, 1000040, 1000041, 1000042, 1000043, 1000044, 1000045, 1000046, 1000047, 1000051, 1000054, 1000055, 1000056]
def c17b0 : AC := (.seq
       (.seq
        (.reg [⟨some 4, none, .mov (.t 3)⟩,
         ⟨some 5, none, .mov (.t 0)⟩,
         ⟨some 6, none, .len (.t 5)⟩,
         ⟨some 7, none, .bin .lss (.t 4) (.t 6)⟩])
        (.cond (.t 7)
         .skip
         (.exit 0)))
       (.seq
        (.block 1
         (.seq
          (.reg [⟨some 10, none, .mov (.t 0)⟩,
           ⟨some 11, none, .mov (.t 3)⟩,
           ⟨some 12, none, .iaddr (.slice 2) (.t 10) (.t 11)⟩,
           ⟨some 13, none, .load 2 true (.t 12)⟩,
           ⟨some 14, none, .call false 12 [(.t 13)]⟩,
           ⟨some 15, none, .un .not (.t 14)⟩,
           ⟨some 16, none, .mov (.t 15)⟩,
           ⟨some 17, some (16, false), .mov (.t 3)⟩,
           ⟨some 18, some (16, false), .bin .gtr (.t 17) (.c (.int .i64 0))⟩,
           ⟨some 19, some (16, false), .mov (.t 18)⟩,
           ⟨some 20, some (19, true), .mov (.t 0)⟩,
           ⟨some 21, some (19, true), .mov (.t 3)⟩,
           ⟨some 22, some (19, true), .bin .sub (.t 21) (.c (.int .i64 1))⟩,
           ⟨some 23, some (19, true), .iaddr (.slice 2) (.t 20) (.t 22)⟩,
           ⟨some 24, some (19, true), .faddr 1 (.t 23)⟩,
           ⟨some 25, some (19, true), .load 1 false (.t 24)⟩,
           ⟨some 26, some (19, true), .mov (.t 0)⟩,
           ⟨some 27, some (19, true), .mov (.t 3)⟩,
           ⟨some 28, some (19, true), .iaddr (.slice 2) (.t 26) (.t 27)⟩,
           ⟨some 29, some (19, true), .faddr 0 (.t 28)⟩,
           ⟨some 30, some (19, true), .load 1 false (.t 29)⟩,
           ⟨some 31, some (19, true), .bin .geq (.t 25) (.t 30)⟩,
           ⟨some 32, some (16, false), .pick (.t 19) (.t 31) (.c (.bool false))⟩,
           ⟨some 33, none, .pick (.t 16) (.c (.bool true)) (.t 32)⟩])
          (.cond (.t 33)
           (.seq
            (.reg [⟨some 2, none, .mov (.c (.bool false))⟩])
            .ret)
           .skip)))
        (.reg [⟨some 8, none, .mov (.t 3)⟩,
         ⟨some 9, none, .bin .add (.t 8) (.c (.int .i64 1))⟩,
         ⟨some 3, none, .mov (.t 9)⟩])))
/-- tracebook/tracebookref04.IsNormal -/
def c17 : AFn := ⟨1, 34, [.t 2],
 (.seq
  (.reg [⟨some 2, none, .mov (.c (.bool false))⟩])
  (.seq
   (.seq
    (.reg [⟨some 3, none, .mov (.c (.int .i64 0))⟩])
    (.block 0
     (.loop [0, 3]
      c17b0)))
   (.seq
    (.reg [⟨some 2, none, .mov (.c (.bool true))⟩])
    .ret))), none⟩
def k17 : List (List Nat) := [[0, 3]]
def o17 : List Nat := [1000028, 1000034, 1000040, 1000041, 1000042, 1000043, 1000044, 1000045, 1000046, 1000047, 1000051, 1000054, 1000055, 1000056]
def c18b0 : AC := (.seq
        (.reg [⟨some 10, none, .bin .lss (.t 9) (.t 8)⟩])
        (.seq
         (.cond (.t 10)
          .skip
          (.exit 0))
         (.seq
          (.block 1
           (.seq
            (.reg [⟨some 11, none, .iaddr (.slice 2) (.t 7) (.t 9)⟩,
             ⟨some 12, none, .load 2 true (.t 11)⟩,
             ⟨some 5, none, .alloc [(.int .i64 0), (.int .i64 0)]⟩,
             ⟨none, none, .store 2 (.t 5) (.t 12)⟩])
            (.reg [⟨some 13, none, .mov (.t 3)⟩,
             ⟨some 14, none, .faddr 1 (.t 5)⟩,
             ⟨some 15, none, .load 1 false (.t 14)⟩,
             ⟨some 16, none, .faddr 0 (.t 5)⟩,
             ⟨some 17, none, .load 1 false (.t 16)⟩,
             ⟨some 18, none, .bin .sub (.t 15) (.t 17)⟩,
             ⟨some 19, none, .bin .add (.t 13) (.t 18)⟩,
             ⟨some 3, none, .mov (.t 19)⟩])))
          (.reg [⟨some 20, none, .bin .add (.t 9) (.c (.int .i64 1))⟩,
           ⟨some 9, none, .mov (.t 20)⟩]))))
/-- tracebook/spans.Length -/
def c18 : AFn := ⟨1, 22, [.t 2],
 (.seq
  (.reg [⟨some 2, none, .mov (.c (.int .i64 0))⟩])
  (.seq
   (.reg [⟨some 3, none, .mov (.c (.int .i64 0))⟩])
   (.seq
    (.seq
     (.reg [⟨some 6, none, .mov (.t 0)⟩,
      ⟨some 7, none, .call false 14 [(.t 6)]⟩,
      ⟨some 8, none, .len (.t 7)⟩,
      ⟨some 9, none, .mov (.c (.int .i64 0))⟩])
     (.block 0
      (.loop [3, 7, 8, 9]
       c18b0)))
    (.seq
     (.reg [⟨some 21, none, .mov (.t 3)⟩,
      ⟨some 2, none, .mov (.t 21)⟩])
     .ret)))), none⟩
def k18 : List (List Nat) := [[3, 7, 8, 9]]
def o18 : List Nat := [1000028, 1000034, 1000040, 1000041, 1000042, 1000043, 1000044, 1000045, 1000046, 1000047, 1000051, 1000054, 1000055, 1000056]
def c19b0 : AC := (.seq
         (.seq
          (.reg [⟨some 8, none, .mov (.t 5)⟩,
           ⟨some 9, none, .mov (.t 4)⟩,
           ⟨some 10, none, .len (.t 9)⟩,
           ⟨some 11, none, .bin .lss (.t 8) (.t 10)⟩])
          (.cond (.t 11)
           .skip
           (.exit 0)))
         (.seq
          (.block 1
           (.reg [⟨some 14, none, .mov (.t 3)⟩,
            ⟨some 15, none, .mov (.t 4)⟩,
            ⟨some 16, none, .mov (.t 5)⟩,
            ⟨some 17, none, .iaddr (.slice 2) (.t 15) (.t 16)⟩,
            ⟨some 18, none, .faddr 1 (.t 17)⟩,
            ⟨some 19, none, .load 1 false (.t 18)⟩,
            ⟨some 20, none, .bin .add (.t 14) (.t 19)⟩,
            ⟨some 21, none, .mov (.t 4)⟩,
            ⟨some 22, none, .mov (.t 5)⟩,
            ⟨some 23, none, .iaddr (.slice 2) (.t 21) (.t 22)⟩,
            ⟨some 24, none, .faddr 0 (.t 23)⟩,
            ⟨some 25, none, .load 1 false (.t 24)⟩,
            ⟨some 26, none, .bin .sub (.t 20) (.t 25)⟩,
            ⟨some 3, none, .mov (.t 26)⟩]))
          (.reg [⟨some 12, none, .mov (.t 5)⟩,
           ⟨some 13, none, .bin .add (.t 12) (.c (.int .i64 1))⟩,
           ⟨some 5, none, .mov (.t 13)⟩])))
/-- tracebook/tracebookref04.Length -/
def c19 : AFn := ⟨1, 28, [.t 2],
 (.seq
  (.reg [⟨some 2, none, .mov (.c (.int .i64 0))⟩])
  (.seq
   (.reg [⟨some 3, none, .mov (.c (.int .i64 0))⟩])
   (.seq
    (.reg [⟨some 6, none, .mov (.t 0)⟩,
     ⟨some 7, none, .call false 15 [(.t 6)]⟩,
     ⟨some 4, none, .mov (.t 7)⟩])
    (.seq
     (.seq
      (.reg [⟨some 5, none, .mov (.c (.int .i64 0))⟩])
      (.block 0
       (.loop [3, 4, 5]
        c19b0)))
     (.seq
      (.reg [⟨some 27, none, .mov (.t 3)⟩,
       ⟨some 2, none, .mov (.t 27)⟩])
      .ret))))), none⟩
def k19 : List (List Nat) := [[3, 4, 5]]
def o19 : List Nat := [1000028, 1000034, 1000040, 1000041, 1000042, 1000043, 1000044, 1000045, 1000046, 1000047, 1000051, 1000054, 1000055, 1000056]
/-- tracebook/spans.Union -/
def c20 : AFn := ⟨2, 10, [.t 4],
 (.seq
  (.reg [⟨some 4, none, .nilv 2⟩])
  (.seq
   (.reg [⟨some 5, none, .mov (.t 0)⟩,
    ⟨some 6, none, .mov (.t 1)⟩,
    ⟨some 7, none, .bslice false 1 [.nilS] 2 [(0, (.t 5)), (1, (.t 6))]⟩,
    ⟨some 8, none, .call false 32 [(.t 7)]⟩,
    ⟨some 9, none, .call false 14 [(.t 8)]⟩,
    ⟨some 4, none, .mov (.t 9)⟩])
   .ret)), none⟩
def k20 : List (List Nat) := []
def o20 : List Nat := [1000028, 1000034, 1000040, 1000041, 1000042, 1000043, 1000044, 1000045, 1000046, 1000047, 1000051, 1000054, 1000055, 1000056]
/-- tracebook/tracebookref04.Union -/
def c21 : AFn := ⟨2, 8, [.t 4],
 (.seq
  (.reg [⟨some 4, none, .nilv 2⟩])
  (.seq
   (.reg [⟨some 5, none, .mov (.t 0)⟩,
    ⟨some 6, none, .mov (.t 1)⟩,
    ⟨some 7, none, .call false 31 [(.t 5), (.t 6), (.c (.int .i64 1))]⟩,
    ⟨some 4, none, .mov (.t 7)⟩])
   .ret)), none⟩
def k21 : List (List Nat) := []
def o21 : List Nat := [1000028, 1000034, 1000040, 1000041, 1000042, 1000043, 1000044, 1000045, 1000046, 1000047, 1000051, 1000054, 1000055, 1000056]
def c22b0 : AC := (.seq
        (.seq
         (.reg [⟨some 11, none, .mov (.t 0)⟩,
          ⟨some 12, none, .len (.t 11)⟩,
          ⟨some 13, none, .bin .gtr (.t 12) (.c (.int .i64 0))⟩,
          ⟨some 14, none, .mov (.t 13)⟩,
          ⟨some 15, some (14, true), .mov (.t 1)⟩,
          ⟨some 16, some (14, true), .len (.t 15)⟩,
          ⟨some 17, some (14, true), .bin .gtr (.t 16) (.c (.int .i64 0))⟩,
          ⟨some 18, none, .pick (.t 14) (.t 17) (.c (.bool false))⟩])
         (.cond (.t 18)
          .skip
          (.exit 0)))
        (.block 1
         (.seq
          (.reg [⟨some 19, none, .mov (.t 0)⟩,
           ⟨some 20, none, .iaddr (.slice 2) (.t 19) (.c (.int .i64 0))⟩,
           ⟨some 21, none, .faddr 0 (.t 20)⟩,
           ⟨some 22, none, .load 1 false (.t 21)⟩,
           ⟨some 23, none, .mov (.t 1)⟩,
           ⟨some 24, none, .iaddr (.slice 2) (.t 23) (.c (.int .i64 0))⟩,
           ⟨some 25, none, .faddr 0 (.t 24)⟩,
           ⟨some 26, none, .load 1 false (.t 25)⟩,
           ⟨some 27, none, .max [(.t 22), (.t 26)]⟩,
           ⟨some 28, none, .mov (.t 0)⟩,
           ⟨some 29, none, .iaddr (.slice 2) (.t 28) (.c (.int .i64 0))⟩,
           ⟨some 30, none, .faddr 1 (.t 29)⟩,
           ⟨some 31, none, .load 1 false (.t 30)⟩,
           ⟨some 32, none, .mov (.t 1)⟩,
           ⟨some 33, none, .iaddr (.slice 2) (.t 32) (.c (.int .i64 0))⟩,
           ⟨some 34, none, .faddr 1 (.t 33)⟩,
           ⟨some 35, none, .load 1 false (.t 34)⟩,
           ⟨some 36, none, .min [(.t 31), (.t 35)]⟩,
           ⟨some 37, none, .build [(.int .i64 0), (.int .i64 0)] [(0, 1, (.t 27)), (1, 1, (.t 36))]⟩,
           ⟨some 6, none, .alloc [(.int .i64 0), (.int .i64 0)]⟩,
           ⟨none, none, .store 2 (.t 6) (.t 37)⟩])
          (.seq
           (.seq
            (.reg [⟨some 38, none, .faddr 0 (.t 6)⟩,
             ⟨some 39, none, .load 1 false (.t 38)⟩,
             ⟨some 40, none, .faddr 1 (.t 6)⟩,
             ⟨some 41, none, .load 1 false (.t 40)⟩,
             ⟨some 42, none, .bin .lss (.t 39) (.t 41)⟩])
            (.cond (.t 42)
             (.reg [⟨some 43, none, .mov (.t 5)⟩,
              ⟨some 44, none, .load 2 true (.t 6)⟩,
              ⟨some 45, none, .bslice false 2 [(.int .i64 0), (.int .i64 0)] 1 [(0, (.t 44))]⟩,
              ⟨some 46, none, .append 2 16 (.t 43) (.t 45)⟩,
              ⟨some 5, none, .mov (.t 46)⟩])
             .skip))
           (.seq
            (.reg [⟨some 47, none, .mov (.t 0)⟩,
             ⟨some 48, none, .iaddr (.slice 2) (.t 47) (.c (.int .i64 0))⟩,
             ⟨some 49, none, .faddr 1 (.t 48)⟩,
             ⟨some 50, none, .load 1 false (.t 49)⟩,
             ⟨some 51, none, .mov (.t 1)⟩,
             ⟨some 52, none, .iaddr (.slice 2) (.t 51) (.c (.int .i64 0))⟩,
             ⟨some 53, none, .faddr 1 (.t 52)⟩,
             ⟨some 54, none, .load 1 false (.t 53)⟩,
             ⟨some 55, none, .bin .lss (.t 50) (.t 54)⟩])
            (.cond (.t 55)
             (.reg [⟨some 56, none, .mov (.t 0)⟩,
              ⟨some 57, none, .slc (.slice 2) (.t 56) (some (.c (.int .i64 1))) none none⟩,
              ⟨some 0, none, .mov (.t 57)⟩])
             (.reg [⟨some 58, none, .mov (.t 1)⟩,
              ⟨some 59, none, .slc (.slice 2) (.t 58) (some (.c (.int .i64 1))) none none⟩,
              ⟨some 1, none, .mov (.t 59)⟩])))))))
/-- tracebook/spans.Meet -/
def c22 : AFn := ⟨2, 61, [.t 4],
 (.seq
  (.reg [⟨some 4, none, .nilv 2⟩])
  (.seq
   (.reg [⟨some 7, none, .mov (.t 0)⟩,
    ⟨some 8, none, .call false 14 [(.t 7)]⟩,
    ⟨some 9, none, .mov (.t 1)⟩,
    ⟨some 10, none, .call false 14 [(.t 9)]⟩,
    ⟨some 0, none, .mov (.t 8)⟩,
    ⟨some 1, none, .mov (.t 10)⟩])
   (.seq
    (.reg [⟨some 5, none, .nilv 2⟩])
    (.seq
     (.block 0
      (.loop [0, 1, 5]
       c22b0))
     (.seq
      (.reg [⟨some 60, none, .mov (.t 5)⟩,
       ⟨some 4, none, .mov (.t 60)⟩])
      .ret))))), none⟩
def k22 : List (List Nat) := [[0, 1, 5]]
def o22 : List Nat := [1000028, 1000034, 1000040, 1000041, 1000042, 1000043, 1000044, 1000045, 1000046, 1000047, 1000051, 1000054, 1000055, 1000056]
/-- tracebook/tracebookref04.Meet -/
def c23 : AFn := ⟨2, 8, [.t 4],
 (.seq
  (.reg [⟨some 4, none, .nilv 2⟩])
  (.seq
   (.reg [⟨some 5, none, .mov (.t 0)⟩,
    ⟨some 6, none, .mov (.t 1)⟩,
    ⟨some 7, none, .call false 31 [(.t 5), (.t 6), (.c (.int .i64 2))]⟩,
    ⟨some 4, none, .mov (.t 7)⟩])
   .ret)), none⟩
def k23 : List (List Nat) := []
def o23 : List Nat := [1000028, 1000034, 1000040, 1000041, 1000042, 1000043, 1000044, 1000045, 1000046, 1000047, 1000051, 1000054, 1000055, 1000056]
/-- tracebook/spans.Minus -/
def c24 : AFn := ⟨2, 10, [.t 4],
 (.seq
  (.reg [⟨some 4, none, .nilv 2⟩])
  (.seq
   (.reg [⟨some 5, none, .mov (.t 0)⟩,
    ⟨some 6, none, .mov (.t 1)⟩,
    ⟨some 7, none, .call false 14 [(.t 6)]⟩,
    ⟨some 8, none, .call false 33 [(.t 7)]⟩,
    ⟨some 9, none, .call false 22 [(.t 5), (.t 8)]⟩,
    ⟨some 4, none, .mov (.t 9)⟩])
   .ret)), none⟩
def k24 : List (List Nat) := []
def o24 : List Nat := [1000028, 1000034, 1000040, 1000041, 1000042, 1000043, 1000044, 1000045, 1000046, 1000047, 1000051, 1000054, 1000055, 1000056]
/-- tracebook/tracebookref04.Minus -/
def c25 : AFn := ⟨2, 8, [.t 4],
 (.seq
  (.reg [⟨some 4, none, .nilv 2⟩])
  (.seq
   (.reg [⟨some 5, none, .mov (.t 0)⟩,
    ⟨some 6, none, .mov (.t 1)⟩,
    ⟨some 7, none, .call false 31 [(.t 5), (.t 6), (.c (.int .i64 3))]⟩,
    ⟨some 4, none, .mov (.t 7)⟩])
   .ret)), none⟩
def k25 : List (List Nat) := []
def o25 : List Nat := [1000028, 1000034, 1000040, 1000041, 1000042, 1000043, 1000044, 1000045, 1000046, 1000047, 1000051, 1000054, 1000055, 1000056]
def c26b0 : AC := (.seq
       (.reg [⟨some 10, none, .bin .lss (.t 9) (.t 8)⟩])
       (.seq
        (.cond (.t 10)
         .skip
         (.exit 0))
        (.seq
         (.block 1
          (.seq
           (.reg [⟨some 11, none, .iaddr (.slice 2) (.t 7) (.t 9)⟩,
            ⟨some 12, none, .load 2 true (.t 11)⟩,
            ⟨some 6, none, .alloc [(.int .i64 0), (.int .i64 0)]⟩,
            ⟨none, none, .store 2 (.t 6) (.t 12)⟩])
           (.seq
            (.reg [⟨some 13, none, .load 2 true (.t 6)⟩,
             ⟨some 14, none, .call false 11 [(.t 13)]⟩,
             ⟨some 15, none, .mov (.t 14)⟩,
             ⟨some 16, some (15, true), .faddr 0 (.t 6)⟩,
             ⟨some 17, some (15, true), .load 1 false (.t 16)⟩,
             ⟨some 18, some (15, true), .mov (.t 1)⟩,
             ⟨some 19, some (15, true), .bin .leq (.t 17) (.t 18)⟩,
             ⟨some 20, none, .pick (.t 15) (.t 19) (.c (.bool false))⟩,
             ⟨some 21, none, .mov (.t 20)⟩,
             ⟨some 22, some (21, true), .mov (.t 1)⟩,
             ⟨some 23, some (21, true), .faddr 1 (.t 6)⟩,
             ⟨some 24, some (21, true), .load 1 false (.t 23)⟩,
             ⟨some 25, some (21, true), .bin .lss (.t 22) (.t 24)⟩,
             ⟨some 26, none, .pick (.t 21) (.t 25) (.c (.bool false))⟩])
            (.cond (.t 26)
             (.seq
              (.reg [⟨some 4, none, .mov (.c (.bool true))⟩])
              .ret)
             .skip))))
         (.reg [⟨some 27, none, .bin .add (.t 9) (.c (.int .i64 1))⟩,
          ⟨some 9, none, .mov (.t 27)⟩]))))
/-- tracebook/spans.Covers -/
def c26 : AFn := ⟨2, 28, [.t 4],
 (.seq
  (.reg [⟨some 4, none, .mov (.c (.bool false))⟩])
  (.seq
   (.seq
    (.reg [⟨some 7, none, .mov (.t 0)⟩,
     ⟨some 8, none, .len (.t 7)⟩,
     ⟨some 9, none, .mov (.c (.int .i64 0))⟩])
    (.block 0
     (.loop [1, 7, 8, 9]
      c26b0)))
   (.seq
    (.reg [⟨some 4, none, .mov (.c (.bool false))⟩])
    .ret))), none⟩
def k26 : List (List Nat) := [[1, 7, 8, 9]]
def o26 : List Nat := [1000028, 1000034, 1000040, 1000041, 1000042, 1000043, 1000044, 1000045, 1000046, 1000047, 1000051, 1000054, 1000055, 1000056]
def c27b0 : AC := (.seq
       (.seq
        (.reg [⟨some 6, none, .mov (.t 5)⟩,
         ⟨some 7, none, .mov (.t 0)⟩,
         ⟨some 8, none, .len (.t 7)⟩,
         ⟨some 9, none, .bin .lss (.t 6) (.t 8)⟩])
        (.cond (.t 9)
         .skip
         (.exit 0)))
       (.seq
        (.block 1
         (.seq
          (.reg [⟨some 12, none, .mov (.t 0)⟩,
           ⟨some 13, none, .mov (.t 5)⟩,
           ⟨some 14, none, .iaddr (.slice 2) (.t 12) (.t 13)⟩,
           ⟨some 15, none, .load 2 true (.t 14)⟩,
           ⟨some 16, none, .call false 12 [(.t 15)]⟩,
           ⟨some 17, none, .mov (.t 16)⟩,
           ⟨some 18, some (17, true), .mov (.t 0)⟩,
           ⟨some 19, some (17, true), .mov (.t 5)⟩,
           ⟨some 20, some (17, true), .iaddr (.slice 2) (.t 18) (.t 19)⟩,
           ⟨some 21, some (17, true), .faddr 0 (.t 20)⟩,
           ⟨some 22, some (17, true), .load 1 false (.t 21)⟩,
           ⟨some 23, some (17, true), .mov (.t 1)⟩,
           ⟨some 24, some (17, true), .bin .leq (.t 22) (.t 23)⟩,
           ⟨some 25, none, .pick (.t 17) (.t 24) (.c (.bool false))⟩,
           ⟨some 26, none, .mov (.t 25)⟩,
           ⟨some 27, some (26, true), .mov (.t 1)⟩,
           ⟨some 28, some (26, true), .mov (.t 0)⟩,
           ⟨some 29, some (26, true), .mov (.t 5)⟩,
           ⟨some 30, some (26, true), .iaddr (.slice 2) (.t 28) (.t 29)⟩,
           ⟨some 31, some (26, true), .faddr 1 (.t 30)⟩,
           ⟨some 32, some (26, true), .load 1 false (.t 31)⟩,
           ⟨some 33, some (26, true), .bin .lss (.t 27) (.t 32)⟩,
           ⟨some 34, none, .pick (.t 26) (.t 33) (.c (.bool false))⟩])
          (.cond (.t 34)
           (.seq
            (.reg [⟨some 4, none, .mov (.c (.bool true))⟩])
            .ret)
           .skip)))
        (.reg [⟨some 10, none, .mov (.t 5)⟩,
         ⟨some 11, none, .bin .add (.t 10) (.c (.int .i64 1))⟩,
         ⟨some 5, none, .mov (.t 11)⟩])))
/-- tracebook/tracebookref04.Covers -/
def c27 : AFn := ⟨2, 35, [.t 4],
 (.seq
  (.reg [⟨some 4, none, .mov (.c (.bool false))⟩])
  (.seq
   (.seq
    (.reg [⟨some 5, none, .mov (.c (.int .i64 0))⟩])
    (.block 0
     (.loop [0, 1, 5]
      c27b0)))
   (.seq
    (.reg [⟨some 4, none, .mov (.c (.bool false))⟩])
    .ret))), none⟩
def k27 : List (List Nat) := [[0, 1, 5]]
def o27 : List Nat := [1000028, 1000034, 1000040, 1000041, 1000042, 1000043, 1000044, 1000045, 1000046, 1000047, 1000051, 1000054, 1000055, 1000056]
/-- slices.SortFunc[[]tracebook/api.Span,tracebook/api.Span] -/
def c28 : AFn := ⟨1, 0, [], .skip, some (.s xSortF)⟩
/-- tracebook/spans.Normal$1 -/
def c29 : AFn := ⟨2, 10, [.t 4],
 (.seq
  (.reg [⟨some 2, none, .box (.t 0)⟩,
   ⟨some 3, none, .box (.t 1)⟩,
   ⟨some 4, none, .mov (.c (.int .i64 0))⟩])
  (.seq
   (.reg [⟨some 5, none, .faddr 0 (.t 2)⟩,
    ⟨some 6, none, .load 1 false (.t 5)⟩,
    ⟨some 7, none, .faddr 0 (.t 3)⟩,
    ⟨some 8, none, .load 1 false (.t 7)⟩,
    ⟨some 9, none, .call false 30 [(.t 6), (.t 8)]⟩,
    ⟨some 4, none, .mov (.t 9)⟩])
   .ret)), none⟩
def k29 : List (List Nat) := []
def o29 : List Nat := [1000028, 1000034, 1000040, 1000041, 1000042, 1000043, 1000044, 1000045, 1000046, 1000047, 1000051, 1000054, 1000055, 1000056]
/-- cmp.Compare[int] -/
def c30 : AFn := ⟨2, 20, [.t 4],
 (.seq
  (.reg [⟨some 4, none, .mov (.c (.int .i64 0))⟩])
  (.seq
   (.reg [⟨some 7, none, .mov (.t 0)⟩,
    ⟨some 8, none, .call false 36 [(.t 7)]⟩,
    ⟨some 5, none, .mov (.t 8)⟩])
   (.seq
    (.reg [⟨some 9, none, .mov (.t 1)⟩,
     ⟨some 10, none, .call false 36 [(.t 9)]⟩,
     ⟨some 6, none, .mov (.t 10)⟩])
    (.seq
     (.seq
      (.reg [⟨some 11, none, .mov (.t 5)⟩])
      (.cond (.t 11)
       (.seq
        (.seq
         (.reg [⟨some 12, none, .mov (.t 6)⟩])
         (.cond (.t 12)
          (.seq
           (.reg [⟨some 4, none, .mov (.c (.int .i64 0))⟩])
           .ret)
          .skip))
        (.seq
         (.reg [⟨some 4, none, .mov (.c (.int .i64 (-1)))⟩])
         .ret))
       .skip))
     (.seq
      (.seq
       (.reg [⟨some 13, none, .mov (.t 6)⟩])
       (.cond (.t 13)
        (.seq
         (.reg [⟨some 4, none, .mov (.c (.int .i64 1))⟩])
         .ret)
        .skip))
      (.seq
       (.seq
        (.reg [⟨some 14, none, .mov (.t 0)⟩,
         ⟨some 15, none, .mov (.t 1)⟩,
         ⟨some 16, none, .bin .lss (.t 14) (.t 15)⟩])
        (.cond (.t 16)
         (.seq
          (.reg [⟨some 4, none, .mov (.c (.int .i64 (-1)))⟩])
          .ret)
         .skip))
       (.seq
        (.seq
         (.reg [⟨some 17, none, .mov (.t 0)⟩,
          ⟨some 18, none, .mov (.t 1)⟩,
          ⟨some 19, none, .bin .gtr (.t 17) (.t 18)⟩])
         (.cond (.t 19)
          (.seq
           (.reg [⟨some 4, none, .mov (.c (.int .i64 1))⟩])
           .ret)
          .skip))
        (.seq
         (.reg [⟨some 4, none, .mov (.c (.int .i64 0))⟩])
         .ret)))))))), none⟩
def k30 : List (List Nat) := []
def o30 : List Nat := [1000028, 1000034, 1000040, 1000041, 1000042, 1000043, 1000044, 1000045, 1000046, 1000047, 1000051, 1000054, 1000055, 1000056]
def c31b0 : AC := (.seq
         (.seq
          (.reg [⟨some 14, none, .mov (.t 9)⟩,
           ⟨some 15, none, .bin .add (.t 14) (.c (.int .i64 1))⟩,
           ⟨some 16, none, .mov (.t 8)⟩,
           ⟨some 17, none, .len (.t 16)⟩,
           ⟨some 18, none, .bin .lss (.t 15) (.t 17)⟩])
          (.cond (.t 18)
           .skip
           (.exit 0)))
         (.seq
          (.block 1
           (.seq
            (.seq
             (.reg [⟨some 21, none, .mov (.t 0)⟩,
              ⟨some 22, none, .mov (.t 1)⟩,
              ⟨some 23, none, .mov (.t 2)⟩,
              ⟨some 24, none, .mov (.t 8)⟩,
              ⟨some 25, none, .mov (.t 9)⟩,
              ⟨some 26, none, .iaddr (.slice 1) (.t 24) (.t 25)⟩,
              ⟨some 27, none, .load 1 false (.t 26)⟩,
              ⟨some 28, none, .call false 38 [(.t 21), (.t 22), (.t 23), (.t 27)]⟩,
              ⟨some 29, none, .un .not (.t 28)⟩])
             (.cond (.t 29)
              (.exit 1)
              .skip))
            (.seq
             (.reg [⟨some 30, none, .mov (.t 7)⟩,
              ⟨some 31, none, .len (.t 30)⟩,
              ⟨some 32, none, .bin .sub (.t 31) (.c (.int .i64 1))⟩,
              ⟨some 10, none, .mov (.t 32)⟩])
             (.seq
              (.reg [⟨some 33, none, .mov (.t 10)⟩,
               ⟨some 34, none, .bin .geq (.t 33) (.c (.int .i64 0))⟩,
               ⟨some 35, none, .mov (.t 34)⟩,
               ⟨some 36, some (35, true), .mov (.t 7)⟩,
               ⟨some 37, some (35, true), .mov (.t 10)⟩,
               ⟨some 38, some (35, true), .iaddr (.slice 2) (.t 36) (.t 37)⟩,
               ⟨some 39, some (35, true), .faddr 1 (.t 38)⟩,
               ⟨some 40, some (35, true), .load 1 false (.t 39)⟩,
               ⟨some 41, some (35, true), .mov (.t 8)⟩,
               ⟨some 42, some (35, true), .mov (.t 9)⟩,
               ⟨some 43, some (35, true), .iaddr (.slice 1) (.t 41) (.t 42)⟩,
               ⟨some 44, some (35, true), .load 1 false (.t 43)⟩,
               ⟨some 45, some (35, true), .bin .eql (.t 40) (.t 44)⟩,
               ⟨some 46, none, .pick (.t 35) (.t 45) (.c (.bool false))⟩])
              (.cond (.t 46)
               (.reg [⟨some 47, none, .mov (.t 7)⟩,
                ⟨some 48, none, .mov (.t 10)⟩,
                ⟨some 49, none, .mov (.t 8)⟩,
                ⟨some 50, none, .mov (.t 9)⟩,
                ⟨some 51, none, .bin .add (.t 50) (.c (.int .i64 1))⟩,
                ⟨some 52, none, .iaddr (.slice 1) (.t 49) (.t 51)⟩,
                ⟨some 53, none, .load 1 false (.t 52)⟩,
                ⟨some 54, none, .iaddr (.slice 2) (.t 47) (.t 48)⟩,
                ⟨some 55, none, .faddr 1 (.t 54)⟩,
                ⟨none, none, .store 1 (.t 55) (.t 53)⟩])
               (.reg [⟨some 56, none, .mov (.t 7)⟩,
                ⟨some 57, none, .mov (.t 8)⟩,
                ⟨some 58, none, .mov (.t 9)⟩,
                ⟨some 59, none, .iaddr (.slice 1) (.t 57) (.t 58)⟩,
                ⟨some 60, none, .load 1 false (.t 59)⟩,
                ⟨some 61, none, .mov (.t 8)⟩,
                ⟨some 62, none, .mov (.t 9)⟩,
                ⟨some 63, none, .bin .add (.t 62) (.c (.int .i64 1))⟩,
                ⟨some 64, none, .iaddr (.slice 1) (.t 61) (.t 63)⟩,
                ⟨some 65, none, .load 1 false (.t 64)⟩,
                ⟨some 66, none, .build [(.int .i64 0), (.int .i64 0)] [(0, 1, (.t 60)), (1, 1, (.t 65))]⟩,
                ⟨some 67, none, .bslice false 2 [(.int .i64 0), (.int .i64 0)] 1 [(0, (.t 66))]⟩,
                ⟨some 68, none, .append 2 16 (.t 56) (.t 67)⟩,
                ⟨some 7, none, .mov (.t 68)⟩]))))))
          (.reg [⟨some 19, none, .mov (.t 9)⟩,
           ⟨some 20, none, .bin .add (.t 19) (.c (.int .i64 1))⟩,
           ⟨some 9, none, .mov (.t 20)⟩])))
/-- tracebook/tracebookref04.combine -/
def c31 : AFn := ⟨3, 70, [.t 6],
 (.seq
  (.reg [⟨some 6, none, .nilv 2⟩])
  (.seq
   (.reg [⟨some 7, none, .nilv 2⟩])
   (.seq
    (.reg [⟨some 11, none, .mov (.t 0)⟩,
     ⟨some 12, none, .mov (.t 1)⟩,
     ⟨some 13, none, .call false 37 [(.t 11), (.t 12)]⟩,
     ⟨some 8, none, .mov (.t 13)⟩])
    (.seq
     (.seq
      (.reg [⟨some 9, none, .mov (.c (.int .i64 0))⟩])
      (.block 0
       (.loop [0, 1, 2, 7, 8, 9]
        c31b0)))
     (.seq
      (.reg [⟨some 69, none, .mov (.t 7)⟩,
       ⟨some 6, none, .mov (.t 69)⟩])
      .ret))))), none⟩
def k31 : List (List Nat) := [[0, 1, 2, 7, 8, 9]]
def o31 : List Nat := [1000028, 1000034, 1000040, 1000041, 1000042, 1000043, 1000044, 1000045, 1000046, 1000047, 1000051, 1000054, 1000055, 1000056]
def c32b0 : AC := (.seq
          (.reg [⟨some 28, none, .bin .lss (.t 27) (.t 26)⟩])
          (.seq
           (.cond (.t 28)
            .skip
            (.exit 2))
           (.seq
            (.block 3
             (.seq
              (.reg [⟨some 29, none, .iaddr (.slice 1) (.t 25) (.t 27)⟩,
               ⟨some 30, none, .load 1 false (.t 29)⟩,
               ⟨some 8, none, .mov (.t 30)⟩])
              (.reg [⟨some 31, none, .mov (.t 6)⟩,
               ⟨some 32, none, .mov (.t 8)⟩,
               ⟨some 33, none, .append 2 16 (.t 31) (.t 32)⟩,
               ⟨some 6, none, .mov (.t 33)⟩])))
            (.reg [⟨some 34, none, .bin .add (.t 27) (.c (.int .i64 1))⟩,
             ⟨some 27, none, .mov (.t 34)⟩]))))
def c32b1 : AC := (.seq
        (.reg [⟨some 12, none, .bin .lss (.t 11) (.t 10)⟩])
        (.seq
         (.cond (.t 12)
          .skip
          (.exit 0))
         (.seq
          (.block 1
           (.seq
            (.reg [⟨some 13, none, .iaddr (.slice 1) (.t 9) (.t 11)⟩,
             ⟨some 14, none, .load 1 false (.t 13)⟩,
             ⟨some 5, none, .mov (.t 14)⟩])
            (.seq
             (.reg [⟨some 15, none, .mov (.t 3)⟩,
              ⟨some 16, none, .mov (.t 5)⟩,
              ⟨some 17, none, .len (.t 16)⟩,
              ⟨some 18, none, .bin .add (.t 15) (.t 17)⟩,
              ⟨some 3, none, .mov (.t 18)⟩])
             (.seq
              (.reg [⟨some 19, none, .mov (.t 3)⟩,
               ⟨some 20, none, .bin .lss (.t 19) (.c (.int .i64 0))⟩])
              (.cond (.t 20)
               .stuck
               .skip)))))
          (.reg [⟨some 22, none, .bin .add (.t 11) (.c (.int .i64 1))⟩,
           ⟨some 11, none, .mov (.t 22)⟩]))))
def c32r0 : AC := (.seq
     (.reg [⟨some 23, none, .mov (.t 3)⟩,
      ⟨some 24, none, .call true 39 [(.c .nilS), (.t 23)]⟩,
      ⟨some 6, none, .mov (.t 24)⟩])
     (.seq
      (.seq
       (.reg [⟨some 25, none, .mov (.t 0)⟩,
        ⟨some 26, none, .len (.t 25)⟩,
        ⟨some 27, none, .mov (.c (.int .i64 0))⟩])
       (.block 2
        (.loop [6, 25, 26, 27]
         c32b0)))
      (.seq
       (.reg [⟨some 35, none, .mov (.t 6)⟩,
        ⟨some 2, none, .mov (.t 35)⟩])
       .ret)))
/-- slices.Concat[[]tracebook/api.Span,tracebook/api.Span] -/
def c32 : AFn := ⟨1, 36, [.t 2],
 (.seq
  (.reg [⟨some 2, none, .nilv 2⟩])
  (.seq
   (.reg [⟨some 3, none, .mov (.c (.int .i64 0))⟩])
   (.seq
    (.seq
     (.reg [⟨some 9, none, .mov (.t 0)⟩,
      ⟨some 10, none, .len (.t 9)⟩,
      ⟨some 11, none, .mov (.c (.int .i64 0))⟩])
     (.block 0
      (.loop [0, 3, 9, 10, 11]
       c32b1)))
    c32r0))), none⟩
def k32 : List (List Nat) := [[0, 3, 9, 10, 11], [6, 25, 26, 27]]
def o32 : List Nat := [1000028, 1000034, 1000040, 1000041, 1000042, 1000043, 1000044, 1000045, 1000046, 1000047, 1000051, 1000054, 1000055, 1000056, 24]
def c33b0 : AC := (.seq
         (.reg [⟨some 10, none, .bin .lss (.t 9) (.t 8)⟩])
         (.seq
          (.cond (.t 10)
           .skip
           (.exit 0))
          (.seq
           (.block 1
            (.seq
             (.reg [⟨some 11, none, .iaddr (.slice 2) (.t 7) (.t 9)⟩,
              ⟨some 12, none, .load 2 true (.t 11)⟩,
              ⟨some 6, none, .alloc [(.int .i64 0), (.int .i64 0)]⟩,
              ⟨none, none, .store 2 (.t 6) (.t 12)⟩])
             (.seq
              (.reg [⟨some 13, none, .mov (.t 3)⟩,
               ⟨some 14, none, .mov (.t 4)⟩,
               ⟨some 15, none, .faddr 0 (.t 6)⟩,
               ⟨some 16, none, .load 1 false (.t 15)⟩,
               ⟨some 17, none, .build [(.int .i64 0), (.int .i64 0)] [(0, 1, (.t 14)), (1, 1, (.t 16))]⟩,
               ⟨some 18, none, .bslice false 2 [(.int .i64 0), (.int .i64 0)] 1 [(0, (.t 17))]⟩,
               ⟨some 19, none, .append 2 16 (.t 13) (.t 18)⟩,
               ⟨some 3, none, .mov (.t 19)⟩])
              (.reg [⟨some 20, none, .faddr 1 (.t 6)⟩,
               ⟨some 21, none, .load 1 false (.t 20)⟩,
               ⟨some 4, none, .mov (.t 21)⟩]))))
           (.reg [⟨some 22, none, .bin .add (.t 9) (.c (.int .i64 1))⟩,
            ⟨some 9, none, .mov (.t 22)⟩]))))
/-- tracebook/spans.gaps -/
def c33 : AFn := ⟨1, 28, [.t 2],
 (.seq
  (.reg [⟨some 2, none, .nilv 2⟩])
  (.seq
   (.reg [⟨some 3, none, .nilv 2⟩])
   (.seq
    (.reg [⟨some 4, none, .mov (.c (.int .i64 0))⟩])
    (.seq
     (.seq
      (.reg [⟨some 7, none, .mov (.t 0)⟩,
       ⟨some 8, none, .len (.t 7)⟩,
       ⟨some 9, none, .mov (.c (.int .i64 0))⟩])
      (.block 0
       (.loop [3, 4, 7, 8, 9]
        c33b0)))
     (.seq
      (.reg [⟨some 23, none, .mov (.t 3)⟩,
       ⟨some 24, none, .mov (.t 4)⟩,
       ⟨some 25, none, .build [(.int .i64 0), (.int .i64 0)] [(0, 1, (.t 24)), (1, 1, (.c (.int .i64 1000000000000)))]⟩,
       ⟨some 26, none, .bslice false 2 [(.int .i64 0), (.int .i64 0)] 1 [(0, (.t 25))]⟩,
       ⟨some 27, none, .append 2 16 (.t 23) (.t 26)⟩,
       ⟨some 2, none, .mov (.t 27)⟩])
      .ret))))), none⟩
def k33 : List (List Nat) := [[3, 4, 7, 8, 9]]
def o33 : List Nat := [1000028, 1000034, 1000040, 1000041, 1000042, 1000043, 1000044, 1000045, 1000046, 1000047, 1000051, 1000054, 1000055, 1000056]
def c34b0 : AC := (.block 1
      (.seq
       (.reg [⟨some 21, none, .mov (.t 2)⟩,
        ⟨some 22, none, .mov (.t 1)⟩,
        ⟨some 23, none, .bin .sub (.t 21) (.t 22)⟩,
        ⟨some 12, none, .mov (.t 23)⟩])
       (.seq
        (.seq
         (.reg [⟨some 24, none, .mov (.t 12)⟩,
          ⟨some 25, none, .bin .leq (.t 24) (.c (.int .i64 12))⟩])
         (.cond (.t 25)
          (.seq
           (.reg [⟨some 26, none, .mov (.t 0)⟩,
            ⟨some 27, none, .mov (.t 1)⟩,
            ⟨some 28, none, .mov (.t 2)⟩,
            ⟨some 29, none, .mov (.t 4)⟩,
            ⟨some 30, none, .callS 40 [(.t 26), (.t 27), (.t 28), (.t 29)]⟩])
           .ret)
          .skip))
        (.seq
         (.seq
          (.reg [⟨some 31, none, .mov (.t 3)⟩,
           ⟨some 32, none, .bin .eql (.t 31) (.c (.int .i64 0))⟩])
          (.cond (.t 32)
           (.seq
            (.reg [⟨some 33, none, .mov (.t 0)⟩,
             ⟨some 34, none, .mov (.t 1)⟩,
             ⟨some 35, none, .mov (.t 2)⟩,
             ⟨some 36, none, .mov (.t 4)⟩,
             ⟨some 37, none, .callS 41 [(.t 33), (.t 34), (.t 35), (.t 36)]⟩])
            .ret)
           .skip))
         (.seq
          (.seq
           (.reg [⟨some 38, none, .mov (.t 10)⟩,
            ⟨some 39, none, .un .not (.t 38)⟩])
           (.cond (.t 39)
            (.seq
             (.reg [⟨some 40, none, .mov (.t 0)⟩,
              ⟨some 41, none, .mov (.t 1)⟩,
              ⟨some 42, none, .mov (.t 2)⟩,
              ⟨some 43, none, .mov (.t 4)⟩,
              ⟨some 44, none, .callS 42 [(.t 40), (.t 41), (.t 42), (.t 43)]⟩])
             (.reg [⟨some 45, none, .mov (.t 3)⟩,
              ⟨some 46, none, .bin .sub (.t 45) (.c (.int .i64 1))⟩,
              ⟨some 3, none, .mov (.t 46)⟩]))
            .skip))
          (.seq
           (.reg [⟨some 48, none, .mov (.t 0)⟩,
            ⟨some 49, none, .mov (.t 1)⟩,
            ⟨some 50, none, .mov (.t 2)⟩,
            ⟨some 51, none, .mov (.t 4)⟩,
            ⟨some 52, none, .callS 43 [(.t 48), (.t 49), (.t 50), (.t 51)]⟩,
            ⟨some 47, none, .mov (.t 52)⟩,
            ⟨some 53, none, .ext (.t 47) 0⟩,
            ⟨some 54, none, .ext (.t 47) 1⟩,
            ⟨some 13, none, .mov (.t 53)⟩,
            ⟨some 14, none, .mov (.t 54)⟩])
           (.seq
            (.seq
             (.reg [⟨some 55, none, .mov (.t 14)⟩,
              ⟨some 56, none, .bin .eql (.t 55) (.c (.int .i64 2))⟩])
             (.cond (.t 56)
              (.seq
               (.reg [⟨some 57, none, .mov (.t 0)⟩,
                ⟨some 58, none, .mov (.t 1)⟩,
                ⟨some 59, none, .mov (.t 2)⟩,
                ⟨some 60, none, .mov (.t 4)⟩,
                ⟨some 61, none, .callS 44 [(.t 57), (.t 58), (.t 59), (.t 60)]⟩])
               (.seq
                (.reg [⟨some 62, none, .mov (.t 2)⟩,
                 ⟨some 63, none, .bin .sub (.t 62) (.c (.int .i64 1))⟩,
                 ⟨some 64, none, .mov (.t 13)⟩,
                 ⟨some 65, none, .mov (.t 1)⟩,
                 ⟨some 66, none, .bin .sub (.t 64) (.t 65)⟩,
                 ⟨some 67, none, .bin .sub (.t 63) (.t 66)⟩,
                 ⟨some 13, none, .mov (.t 67)⟩])
                (.reg [⟨some 14, none, .mov (.c (.int .i64 1))⟩])))
              .skip))
            (.seq
             (.seq
              (.reg [⟨some 68, none, .mov (.t 10)⟩,
               ⟨some 69, none, .mov (.t 68)⟩,
               ⟨some 70, some (69, true), .mov (.t 11)⟩,
               ⟨some 71, none, .pick (.t 69) (.t 70) (.c (.bool false))⟩,
               ⟨some 72, none, .mov (.t 71)⟩,
               ⟨some 73, some (72, true), .mov (.t 14)⟩,
               ⟨some 74, some (72, true), .bin .eql (.t 73) (.c (.int .i64 1))⟩,
               ⟨some 75, none, .pick (.t 72) (.t 74) (.c (.bool false))⟩])
              (.cond (.t 75)
               (.seq
                (.reg [⟨some 76, none, .mov (.t 0)⟩,
                 ⟨some 77, none, .mov (.t 1)⟩,
                 ⟨some 78, none, .mov (.t 2)⟩,
                 ⟨some 79, none, .mov (.t 4)⟩,
                 ⟨some 80, none, .callS 45 [(.t 76), (.t 77), (.t 78), (.t 79)]⟩])
                (.cond (.t 80)
                 .ret
                 .skip))
               .skip))
             (.seq
              (.seq
               (.reg [⟨some 81, none, .mov (.t 1)⟩,
                ⟨some 82, none, .bin .gtr (.t 81) (.c (.int .i64 0))⟩,
                ⟨some 83, none, .mov (.t 82)⟩,
                ⟨some 84, some (83, true), .mov (.t 4)⟩,
                ⟨some 85, some (83, true), .mov (.t 0)⟩,
                ⟨some 86, some (83, true), .mov (.t 1)⟩,
                ⟨some 87, some (83, true), .bin .sub (.t 86) (.c (.int .i64 1))⟩,
                ⟨some 88, some (83, true), .iaddr (.slice 2) (.t 85) (.t 87)⟩,
                ⟨some 89, some (83, true), .load 2 true (.t 88)⟩,
                ⟨some 90, some (83, true), .mov (.t 0)⟩,
                ⟨some 91, some (83, true), .mov (.t 13)⟩,
                ⟨some 92, some (83, true), .iaddr (.slice 2) (.t 90) (.t 91)⟩,
                ⟨some 93, some (83, true), .load 2 true (.t 92)⟩,
                ⟨some 94, some (83, true), .calld false (.t 84) [(.t 89), (.t 93)]⟩,
                ⟨some 95, some (83, true), .bin .lss (.t 94) (.c (.int .i64 0))⟩,
                ⟨some 96, some (83, true), .un .not (.t 95)⟩,
                ⟨some 97, none, .pick (.t 83) (.t 96) (.c (.bool false))⟩])
               (.cond (.t 97)
                (.seq
                 (.reg [⟨some 98, none, .mov (.t 0)⟩,
                  ⟨some 99, none, .mov (.t 1)⟩,
                  ⟨some 100, none, .mov (.t 2)⟩,
                  ⟨some 101, none, .mov (.t 13)⟩,
                  ⟨some 102, none, .mov (.t 4)⟩,
                  ⟨some 103, none, .callS 46 [(.t 98), (.t 99), (.t 100), (.t 101), (.t 102)]⟩,
                  ⟨some 15, none, .mov (.t 103)⟩])
                 (.seq
                  (.reg [⟨some 104, none, .mov (.t 15)⟩,
                   ⟨some 1, none, .mov (.t 104)⟩])
                  (.exit 1)))
                .skip))
              (.seq
               (.reg [⟨some 106, none, .mov (.t 0)⟩,
                ⟨some 107, none, .mov (.t 1)⟩,
                ⟨some 108, none, .mov (.t 2)⟩,
                ⟨some 109, none, .mov (.t 13)⟩,
                ⟨some 110, none, .mov (.t 4)⟩,
                ⟨some 111, none, .callS 47 [(.t 106), (.t 107), (.t 108), (.t 109), (.t 110)]⟩,
                ⟨some 105, none, .mov (.t 111)⟩,
                ⟨some 112, none, .ext (.t 105) 0⟩,
                ⟨some 113, none, .ext (.t 105) 1⟩,
                ⟨some 16, none, .mov (.t 112)⟩,
                ⟨some 17, none, .mov (.t 113)⟩])
               (.seq
                (.reg [⟨some 114, none, .mov (.t 17)⟩,
                 ⟨some 11, none, .mov (.t 114)⟩])
                (.seq
                 (.reg [⟨some 115, none, .mov (.t 16)⟩,
                  ⟨some 116, none, .mov (.t 1)⟩,
                  ⟨some 117, none, .bin .sub (.t 115) (.t 116)⟩,
                  ⟨some 118, none, .mov (.t 2)⟩,
                  ⟨some 119, none, .mov (.t 16)⟩,
                  ⟨some 120, none, .bin .sub (.t 118) (.t 119)⟩,
                  ⟨some 18, none, .mov (.t 117)⟩,
                  ⟨some 19, none, .mov (.t 120)⟩])
                 (.seq
                  (.reg [⟨some 121, none, .mov (.t 12)⟩,
                   ⟨some 122, none, .bin .quo (.t 121) (.c (.int .i64 8))⟩,
                   ⟨some 20, none, .mov (.t 122)⟩])
                  (.seq
                   (.reg [⟨some 123, none, .mov (.t 18)⟩,
                    ⟨some 124, none, .mov (.t 19)⟩,
                    ⟨some 125, none, .bin .lss (.t 123) (.t 124)⟩])
                   (.cond (.t 125)
                    (.seq
                     (.reg [⟨some 126, none, .mov (.t 18)⟩,
                      ⟨some 127, none, .mov (.t 20)⟩,
                      ⟨some 128, none, .bin .geq (.t 126) (.t 127)⟩,
                      ⟨some 10, none, .mov (.t 128)⟩])
                     (.seq
                      (.reg [⟨some 129, none, .mov (.t 0)⟩,
                       ⟨some 130, none, .mov (.t 1)⟩,
                       ⟨some 131, none, .mov (.t 16)⟩,
                       ⟨some 132, none, .mov (.t 3)⟩,
                       ⟨some 133, none, .mov (.t 4)⟩,
                       ⟨some 134, none, .callS 34 [(.t 129), (.t 130), (.t 131), (.t 132), (.t 133)]⟩])
                      (.reg [⟨some 135, none, .mov (.t 16)⟩,
                       ⟨some 136, none, .bin .add (.t 135) (.c (.int .i64 1))⟩,
                       ⟨some 1, none, .mov (.t 136)⟩])))
                    (.seq
                     (.reg [⟨some 137, none, .mov (.t 19)⟩,
                      ⟨some 138, none, .mov (.t 20)⟩,
                      ⟨some 139, none, .bin .geq (.t 137) (.t 138)⟩,
                      ⟨some 10, none, .mov (.t 139)⟩])
                     (.seq
                      (.reg [⟨some 140, none, .mov (.t 0)⟩,
                       ⟨some 141, none, .mov (.t 16)⟩,
                       ⟨some 142, none, .bin .add (.t 141) (.c (.int .i64 1))⟩,
                       ⟨some 143, none, .mov (.t 2)⟩,
                       ⟨some 144, none, .mov (.t 3)⟩,
                       ⟨some 145, none, .mov (.t 4)⟩,
                       ⟨some 146, none, .callS 34 [(.t 140), (.t 142), (.t 143), (.t 144), (.t 145)]⟩])
                      (.reg [⟨some 147, none, .mov (.t 16)⟩,
                       ⟨some 2, none, .mov (.t 147)⟩]))))))))))))))))))
/-- slices.pdqsortCmpFunc[tracebook/api.Span] -/
def c34 : AFn := ⟨5, 148, [],
 (.seq
  (.reg [⟨some 10, none, .mov (.c (.bool true))⟩])
  (.seq
   (.reg [⟨some 11, none, .mov (.c (.bool true))⟩])
   (.block 0
    (.loop [0, 1, 2, 3, 4, 10, 11]
     c34b0)))), none⟩
def k34 : List (List Nat) := [[0, 1, 2, 3, 4, 10, 11]]
def o34 : List Nat := [1000028, 1000034, 1000040, 1000041, 1000042, 1000043, 1000044, 1000045, 1000046, 1000047, 1000051, 1000054, 1000055, 1000056]
/-- math/bits.Len -/
def c35 : AFn := ⟨1, 8, [.t 2],
 (.seq
  (.reg [⟨some 2, none, .mov (.c (.int .i64 0))⟩])
  (.seq
   (.cond (.c (.bool false))
    (.seq
     (.reg [⟨some 3, none, .mov (.t 0)⟩,
      ⟨some 4, none, .conv (.int .u32) (.t 3)⟩,
      ⟨some 5, none, .call false 48 [(.t 4)]⟩,
      ⟨some 2, none, .mov (.t 5)⟩])
     .ret)
    .skip)
   (.seq
    (.reg [⟨some 6, none, .mov (.t 0)⟩,
     ⟨some 7, none, .call false 49 [(.t 6)]⟩,
     ⟨some 2, none, .mov (.t 7)⟩])
    .ret))), none⟩
def k35 : List (List Nat) := []
def o35 : List Nat := [1000028, 1000034, 1000040, 1000041, 1000042, 1000043, 1000044, 1000045, 1000046, 1000047, 1000051, 1000054, 1000055, 1000056]
/-- cmp.isNaN[int] -/
def c36 : AFn := ⟨1, 6, [.t 2],
 (.seq
  (.reg [⟨some 2, none, .mov (.c (.bool false))⟩])
  (.seq
   (.reg [⟨some 3, none, .mov (.t 0)⟩,
    ⟨some 4, none, .mov (.t 0)⟩,
    ⟨some 5, none, .bin .neq (.t 3) (.t 4)⟩,
    ⟨some 2, none, .mov (.t 5)⟩])
   .ret)), none⟩
def k36 : List (List Nat) := []
def o36 : List Nat := [1000028, 1000034, 1000040, 1000041, 1000042, 1000043, 1000044, 1000045, 1000046, 1000047, 1000051, 1000054, 1000055, 1000056]
def c37b0 : AC := (.seq
         (.seq
          (.reg [⟨some 13, none, .mov (.t 7)⟩,
           ⟨some 14, none, .mov (.t 6)⟩,
           ⟨some 15, none, .len (.t 14)⟩,
           ⟨some 16, none, .bin .lss (.t 13) (.t 15)⟩])
          (.cond (.t 16)
           .skip
           (.exit 0)))
         (.seq
          (.block 1
           (.seq
            (.reg [⟨some 19, none, .mov (.t 6)⟩,
             ⟨some 20, none, .mov (.t 7)⟩,
             ⟨some 21, none, .iaddr (.slice 2) (.t 19) (.t 20)⟩,
             ⟨some 22, none, .load 2 true (.t 21)⟩,
             ⟨some 23, none, .call false 12 [(.t 22)]⟩])
            (.cond (.t 23)
             (.reg [⟨some 24, none, .mov (.t 5)⟩,
              ⟨some 25, none, .mov (.t 6)⟩,
              ⟨some 26, none, .mov (.t 7)⟩,
              ⟨some 27, none, .iaddr (.slice 2) (.t 25) (.t 26)⟩,
              ⟨some 28, none, .faddr 0 (.t 27)⟩,
              ⟨some 29, none, .load 1 false (.t 28)⟩,
              ⟨some 30, none, .call false 50 [(.t 24), (.t 29)]⟩,
              ⟨some 31, none, .mov (.t 6)⟩,
              ⟨some 32, none, .mov (.t 7)⟩,
              ⟨some 33, none, .iaddr (.slice 2) (.t 31) (.t 32)⟩,
              ⟨some 34, none, .faddr 1 (.t 33)⟩,
              ⟨some 35, none, .load 1 false (.t 34)⟩,
              ⟨some 36, none, .call false 50 [(.t 30), (.t 35)]⟩,
              ⟨some 5, none, .mov (.t 36)⟩])
             .skip)))
          (.reg [⟨some 17, none, .mov (.t 7)⟩,
           ⟨some 18, none, .bin .add (.t 17) (.c (.int .i64 1))⟩,
           ⟨some 7, none, .mov (.t 18)⟩])))
/-- tracebook/tracebookref04.ends -/
def c37 : AFn := ⟨2, 38, [.t 4],
 (.seq
  (.reg [⟨some 4, none, .nilv 1⟩])
  (.seq
   (.reg [⟨some 5, none, .nilv 1⟩])
   (.seq
    (.reg [⟨some 8, none, .bslice true 2 [(.int .i64 0), (.int .i64 0)] 0 []⟩,
     ⟨some 9, none, .mov (.t 0)⟩,
     ⟨some 10, none, .append 2 16 (.t 8) (.t 9)⟩,
     ⟨some 11, none, .mov (.t 1)⟩,
     ⟨some 12, none, .append 2 16 (.t 10) (.t 11)⟩,
     ⟨some 6, none, .mov (.t 12)⟩])
    (.seq
     (.seq
      (.reg [⟨some 7, none, .mov (.c (.int .i64 0))⟩])
      (.block 0
       (.loop [5, 6, 7]
        c37b0)))
     (.seq
      (.reg [⟨some 37, none, .mov (.t 5)⟩,
       ⟨some 4, none, .mov (.t 37)⟩])
      .ret))))), none⟩
def k37 : List (List Nat) := [[5, 6, 7]]
def o37 : List Nat := [1000028, 1000034, 1000040, 1000041, 1000042, 1000043, 1000044, 1000045, 1000046, 1000047, 1000051, 1000054, 1000055, 1000056, 8]
/-- tracebook/tracebookref04.holds -/
def c38 : AFn := ⟨4, 46, [.t 8],
 (.seq
  (.reg [⟨some 8, none, .mov (.c (.bool false))⟩])
  (.seq
   (.reg [⟨some 11, none, .mov (.t 0)⟩,
    ⟨some 12, none, .mov (.t 3)⟩,
    ⟨some 13, none, .call false 27 [(.t 11), (.t 12)]⟩,
    ⟨some 14, none, .mov (.t 1)⟩,
    ⟨some 15, none, .mov (.t 3)⟩,
    ⟨some 16, none, .call false 27 [(.t 14), (.t 15)]⟩,
    ⟨some 9, none, .mov (.t 13)⟩,
    ⟨some 10, none, .mov (.t 16)⟩])
   (.seq
    (.reg [⟨some 17, none, .mov (.t 2)⟩,
     ⟨some 18, none, .bin .eql (.t 17) (.c (.int .i64 1))⟩,
     ⟨some 19, none, .mov (.t 18)⟩,
     ⟨some 20, some (19, true), .mov (.t 9)⟩,
     ⟨some 21, some (19, true), .mov (.t 20)⟩,
     ⟨some 22, some (21, false), .mov (.t 10)⟩,
     ⟨some 23, some (19, true), .pick (.t 21) (.c (.bool true)) (.t 22)⟩,
     ⟨some 24, none, .pick (.t 19) (.t 23) (.c (.bool false))⟩,
     ⟨some 25, none, .mov (.t 24)⟩,
     ⟨some 26, some (25, false), .mov (.t 2)⟩,
     ⟨some 27, some (25, false), .bin .eql (.t 26) (.c (.int .i64 2))⟩,
     ⟨some 28, some (25, false), .mov (.t 27)⟩,
     ⟨some 29, some (28, true), .mov (.t 9)⟩,
     ⟨some 30, some (25, false), .pick (.t 28) (.t 29) (.c (.bool false))⟩,
     ⟨some 31, some (25, false), .mov (.t 30)⟩,
     ⟨some 32, some (31, true), .mov (.t 10)⟩,
     ⟨some 33, some (25, false), .pick (.t 31) (.t 32) (.c (.bool false))⟩,
     ⟨some 34, none, .pick (.t 25) (.c (.bool true)) (.t 33)⟩,
     ⟨some 35, none, .mov (.t 34)⟩,
     ⟨some 36, some (35, false), .mov (.t 2)⟩,
     ⟨some 37, some (35, false), .bin .eql (.t 36) (.c (.int .i64 3))⟩,
     ⟨some 38, some (35, false), .mov (.t 37)⟩,
     ⟨some 39, some (38, true), .mov (.t 9)⟩,
     ⟨some 40, some (35, false), .pick (.t 38) (.t 39) (.c (.bool false))⟩,
     ⟨some 41, some (35, false), .mov (.t 40)⟩,
     ⟨some 42, some (41, true), .mov (.t 10)⟩,
     ⟨some 43, some (41, true), .un .not (.t 42)⟩,
     ⟨some 44, some (35, false), .pick (.t 41) (.t 43) (.c (.bool false))⟩,
     ⟨some 45, none, .pick (.t 35) (.c (.bool true)) (.t 44)⟩,
     ⟨some 8, none, .mov (.t 45)⟩])
    .ret))), none⟩
def k38 : List (List Nat) := []
def o38 : List Nat := [1000028, 1000034, 1000040, 1000041, 1000042, 1000043, 1000044, 1000045, 1000046, 1000047, 1000051, 1000054, 1000055, 1000056]
/-- slices.Grow[[]tracebook/api.Span,tracebook/api.Span] -/
def c39 : AFn := ⟨2, 27, [.t 4],
 (.seq
  (.reg [⟨some 4, none, .nilv 2⟩])
  (.seq
   (.seq
    (.reg [⟨some 5, none, .mov (.t 1)⟩,
     ⟨some 6, none, .bin .lss (.t 5) (.c (.int .i64 0))⟩])
    (.cond (.t 6)
     .stuck
     .skip))
   (.seq
    (.seq
     (.reg [⟨some 8, none, .mov (.t 1)⟩,
      ⟨some 9, none, .mov (.t 0)⟩,
      ⟨some 10, none, .capN (.t 9)⟩,
      ⟨some 11, none, .mov (.t 0)⟩,
      ⟨some 12, none, .len (.t 11)⟩,
      ⟨some 13, none, .bin .sub (.t 10) (.t 12)⟩,
      ⟨some 14, none, .bin .sub (.t 8) (.t 13)⟩,
      ⟨some 1, none, .mov (.t 14)⟩])
     (.seq
      (.reg [⟨some 15, none, .mov (.t 1)⟩,
       ⟨some 16, none, .bin .gtr (.t 15) (.c (.int .i64 0))⟩])
      (.cond (.t 16)
       (.reg [⟨some 17, none, .mov (.t 0)⟩,
        ⟨some 18, none, .mov (.t 0)⟩,
        ⟨some 19, none, .capN (.t 18)⟩,
        ⟨some 20, none, .slc (.slice 2) (.t 17) none (some (.t 19)) none⟩,
        ⟨some 21, none, .mov (.t 1)⟩,
        ⟨some 22, none, .appz 2 16 [(.int .i64 0), (.int .i64 0)] (.t 20) (.t 21)⟩,
        ⟨some 23, none, .mov (.t 0)⟩,
        ⟨some 24, none, .len (.t 23)⟩,
        ⟨some 25, none, .slc (.slice 2) (.t 22) none (some (.t 24)) none⟩,
        ⟨some 0, none, .mov (.t 25)⟩])
       .skip)))
    (.seq
     (.reg [⟨some 26, none, .mov (.t 0)⟩,
      ⟨some 4, none, .mov (.t 26)⟩])
     .ret)))), none⟩
def k39 : List (List Nat) := []
def o39 : List Nat := [1000028, 1000034, 1000040, 1000041, 1000042, 1000043, 1000044, 1000045, 1000046, 1000047, 1000051, 1000054, 1000055, 1000056]
def c40b0 : AC := (.seq
           (.seq
            (.reg [⟨some 18, none, .mov (.t 9)⟩,
             ⟨some 19, none, .mov (.t 1)⟩,
             ⟨some 20, none, .bin .gtr (.t 18) (.t 19)⟩,
             ⟨some 21, none, .mov (.t 20)⟩,
             ⟨some 22, some (21, true), .mov (.t 3)⟩,
             ⟨some 23, some (21, true), .mov (.t 0)⟩,
             ⟨some 24, some (21, true), .mov (.t 9)⟩,
             ⟨some 25, some (21, true), .iaddr (.slice 2) (.t 23) (.t 24)⟩,
             ⟨some 26, some (21, true), .load 2 true (.t 25)⟩,
             ⟨some 27, some (21, true), .mov (.t 0)⟩,
             ⟨some 28, some (21, true), .mov (.t 9)⟩,
             ⟨some 29, some (21, true), .bin .sub (.t 28) (.c (.int .i64 1))⟩,
             ⟨some 30, some (21, true), .iaddr (.slice 2) (.t 27) (.t 29)⟩,
             ⟨some 31, some (21, true), .load 2 true (.t 30)⟩,
             ⟨some 32, some (21, true), .calld false (.t 22) [(.t 26), (.t 31)]⟩,
             ⟨some 33, some (21, true), .bin .lss (.t 32) (.c (.int .i64 0))⟩,
             ⟨some 34, none, .pick (.t 21) (.t 33) (.c (.bool false))⟩])
            (.cond (.t 34)
             .skip
             (.exit 2)))
           (.seq
            (.block 3
             (.reg [⟨some 37, none, .mov (.t 0)⟩,
              ⟨some 38, none, .mov (.t 9)⟩,
              ⟨some 39, none, .mov (.t 0)⟩,
              ⟨some 40, none, .mov (.t 9)⟩,
              ⟨some 41, none, .bin .sub (.t 40) (.c (.int .i64 1))⟩,
              ⟨some 42, none, .mov (.t 0)⟩,
              ⟨some 43, none, .mov (.t 9)⟩,
              ⟨some 44, none, .bin .sub (.t 43) (.c (.int .i64 1))⟩,
              ⟨some 45, none, .iaddr (.slice 2) (.t 42) (.t 44)⟩,
              ⟨some 46, none, .load 2 true (.t 45)⟩,
              ⟨some 47, none, .mov (.t 0)⟩,
              ⟨some 48, none, .mov (.t 9)⟩,
              ⟨some 49, none, .iaddr (.slice 2) (.t 47) (.t 48)⟩,
              ⟨some 50, none, .load 2 true (.t 49)⟩,
              ⟨some 51, none, .iaddr (.slice 2) (.t 37) (.t 38)⟩,
              ⟨none, none, .store 2 (.t 51) (.t 46)⟩,
              ⟨some 52, none, .iaddr (.slice 2) (.t 39) (.t 41)⟩,
              ⟨none, none, .store 2 (.t 52) (.t 50)⟩]))
            (.reg [⟨some 35, none, .mov (.t 9)⟩,
             ⟨some 36, none, .bin .sub (.t 35) (.c (.int .i64 1))⟩,
             ⟨some 9, none, .mov (.t 36)⟩])))
def c40b1 : AC := (.seq
     (.seq
      (.reg [⟨some 12, none, .mov (.t 8)⟩,
       ⟨some 13, none, .mov (.t 2)⟩,
       ⟨some 14, none, .bin .lss (.t 12) (.t 13)⟩])
      (.cond (.t 14)
       .skip
       (.exit 0)))
     (.seq
      (.block 1
       (.seq
        (.reg [⟨some 17, none, .mov (.t 8)⟩,
         ⟨some 9, none, .mov (.t 17)⟩])
        (.block 2
         (.loop [0, 1, 2, 3, 8, 9]
          c40b0))))
      (.reg [⟨some 15, none, .mov (.t 8)⟩,
       ⟨some 16, none, .bin .add (.t 15) (.c (.int .i64 1))⟩,
       ⟨some 8, none, .mov (.t 16)⟩])))
/-- slices.insertionSortCmpFunc[tracebook/api.Span] -/
def c40 : AFn := ⟨4, 53, [],
 (.seq
  (.reg [⟨some 10, none, .mov (.t 1)⟩,
   ⟨some 11, none, .bin .add (.t 10) (.c (.int .i64 1))⟩,
   ⟨some 8, none, .mov (.t 11)⟩])
  (.block 0
   (.loop [0, 1, 2, 3, 8]
    c40b1))), none⟩
def k40 : List (List Nat) := [[0, 1, 2, 3, 8], [0, 1, 2, 3, 8, 9]]
def o40 : List Nat := [1000028, 1000034, 1000040, 1000041, 1000042, 1000043, 1000044, 1000045, 1000046, 1000047, 1000051, 1000054, 1000055, 1000056]
def c41b0 : AC := (.seq
         (.seq
          (.reg [⟨some 32, none, .mov (.t 12)⟩,
           ⟨some 33, none, .bin .geq (.t 32) (.c (.int .i64 0))⟩])
          (.cond (.t 33)
           .skip
           (.exit 2)))
         (.seq
          (.block 3
           (.seq
            (.reg [⟨some 36, none, .mov (.t 0)⟩,
             ⟨some 37, none, .mov (.t 8)⟩,
             ⟨some 38, none, .mov (.t 0)⟩,
             ⟨some 39, none, .mov (.t 8)⟩,
             ⟨some 40, none, .mov (.t 12)⟩,
             ⟨some 41, none, .bin .add (.t 39) (.t 40)⟩,
             ⟨some 42, none, .mov (.t 0)⟩,
             ⟨some 43, none, .mov (.t 8)⟩,
             ⟨some 44, none, .mov (.t 12)⟩,
             ⟨some 45, none, .bin .add (.t 43) (.t 44)⟩,
             ⟨some 46, none, .iaddr (.slice 2) (.t 42) (.t 45)⟩,
             ⟨some 47, none, .load 2 true (.t 46)⟩,
             ⟨some 48, none, .mov (.t 0)⟩,
             ⟨some 49, none, .mov (.t 8)⟩,
             ⟨some 50, none, .iaddr (.slice 2) (.t 48) (.t 49)⟩,
             ⟨some 51, none, .load 2 true (.t 50)⟩,
             ⟨some 52, none, .iaddr (.slice 2) (.t 36) (.t 37)⟩,
             ⟨none, none, .store 2 (.t 52) (.t 47)⟩,
             ⟨some 53, none, .iaddr (.slice 2) (.t 38) (.t 41)⟩,
             ⟨none, none, .store 2 (.t 53) (.t 51)⟩])
            (.reg [⟨some 54, none, .mov (.t 0)⟩,
             ⟨some 55, none, .mov (.t 9)⟩,
             ⟨some 56, none, .mov (.t 12)⟩,
             ⟨some 57, none, .mov (.t 8)⟩,
             ⟨some 58, none, .mov (.t 3)⟩,
             ⟨some 59, none, .callS 51 [(.t 54), (.t 55), (.t 56), (.t 57), (.t 58)]⟩])))
          (.reg [⟨some 34, none, .mov (.t 12)⟩,
           ⟨some 35, none, .bin .sub (.t 34) (.c (.int .i64 1))⟩,
           ⟨some 12, none, .mov (.t 35)⟩])))
def c41b1 : AC := (.seq
         (.seq
          (.reg [⟨some 20, none, .mov (.t 11)⟩,
           ⟨some 21, none, .bin .geq (.t 20) (.c (.int .i64 0))⟩])
          (.cond (.t 21)
           .skip
           (.exit 0)))
         (.seq
          (.block 1
           (.reg [⟨some 24, none, .mov (.t 0)⟩,
            ⟨some 25, none, .mov (.t 11)⟩,
            ⟨some 26, none, .mov (.t 10)⟩,
            ⟨some 27, none, .mov (.t 8)⟩,
            ⟨some 28, none, .mov (.t 3)⟩,
            ⟨some 29, none, .callS 51 [(.t 24), (.t 25), (.t 26), (.t 27), (.t 28)]⟩]))
          (.reg [⟨some 22, none, .mov (.t 11)⟩,
           ⟨some 23, none, .bin .sub (.t 22) (.c (.int .i64 1))⟩,
           ⟨some 11, none, .mov (.t 23)⟩])))
def c41r0 : AC := (.seq
      (.reg [⟨some 30, none, .mov (.t 10)⟩,
       ⟨some 31, none, .bin .sub (.t 30) (.c (.int .i64 1))⟩,
       ⟨some 12, none, .mov (.t 31)⟩])
      (.block 2
       (.loop [0, 3, 8, 9, 12]
        c41b0)))
/-- slices.heapSortCmpFunc[tracebook/api.Span] -/
def c41 : AFn := ⟨4, 60, [],
 (.seq
  (.reg [⟨some 13, none, .mov (.t 1)⟩,
   ⟨some 8, none, .mov (.t 13)⟩])
  (.seq
   (.reg [⟨some 9, none, .mov (.c (.int .i64 0))⟩])
   (.seq
    (.reg [⟨some 14, none, .mov (.t 2)⟩,
     ⟨some 15, none, .mov (.t 1)⟩,
     ⟨some 16, none, .bin .sub (.t 14) (.t 15)⟩,
     ⟨some 10, none, .mov (.t 16)⟩])
    (.seq
     (.seq
      (.reg [⟨some 17, none, .mov (.t 10)⟩,
       ⟨some 18, none, .bin .sub (.t 17) (.c (.int .i64 1))⟩,
       ⟨some 19, none, .bin .quo (.t 18) (.c (.int .i64 2))⟩,
       ⟨some 11, none, .mov (.t 19)⟩])
      (.block 0
       (.loop [0, 3, 8, 9, 10, 11]
        c41b1)))
     c41r0)))), none⟩
def k41 : List (List Nat) := [[0, 3, 8, 9, 10, 11], [0, 3, 8, 9, 12]]
def o41 : List Nat := [1000028, 1000034, 1000040, 1000041, 1000042, 1000043, 1000044, 1000045, 1000046, 1000047, 1000051, 1000054, 1000055, 1000056]
def c42b0 : AC := (.seq
          (.seq
           (.reg [⟨some 28, none, .mov (.t 11)⟩,
            ⟨some 29, none, .mov (.t 1)⟩,
            ⟨some 30, none, .mov (.t 8)⟩,
            ⟨some 31, none, .bin .quo (.t 30) (.c (.int .i64 4))⟩,
            ⟨some 32, none, .bin .mul (.t 31) (.c (.int .i64 2))⟩,
            ⟨some 33, none, .bin .add (.t 29) (.t 32)⟩,
            ⟨some 34, none, .bin .add (.t 33) (.c (.int .i64 1))⟩,
            ⟨some 35, none, .bin .leq (.t 28) (.t 34)⟩])
           (.cond (.t 35)
            .skip
            (.exit 0)))
          (.seq
           (.block 1
            (.seq
             (.reg [⟨some 38, none, .call false 53 [(.t 9)]⟩,
              ⟨some 39, none, .mov (.t 10)⟩,
              ⟨some 40, none, .bin .sub (.t 39) (.c (.int .u64 1))⟩,
              ⟨some 41, none, .bin .and (.t 38) (.t 40)⟩,
              ⟨some 42, none, .conv (.int .i64) (.t 41)⟩,
              ⟨some 12, none, .mov (.t 42)⟩])
             (.seq
              (.seq
               (.reg [⟨some 43, none, .mov (.t 12)⟩,
                ⟨some 44, none, .mov (.t 8)⟩,
                ⟨some 45, none, .bin .geq (.t 43) (.t 44)⟩])
               (.cond (.t 45)
                (.reg [⟨some 46, none, .mov (.t 12)⟩,
                 ⟨some 47, none, .mov (.t 8)⟩,
                 ⟨some 48, none, .bin .sub (.t 46) (.t 47)⟩,
                 ⟨some 12, none, .mov (.t 48)⟩])
                .skip))
              (.reg [⟨some 49, none, .mov (.t 0)⟩,
               ⟨some 50, none, .mov (.t 11)⟩,
               ⟨some 51, none, .mov (.t 0)⟩,
               ⟨some 52, none, .mov (.t 1)⟩,
               ⟨some 53, none, .mov (.t 12)⟩,
               ⟨some 54, none, .bin .add (.t 52) (.t 53)⟩,
               ⟨some 55, none, .mov (.t 0)⟩,
               ⟨some 56, none, .mov (.t 1)⟩,
               ⟨some 57, none, .mov (.t 12)⟩,
               ⟨some 58, none, .bin .add (.t 56) (.t 57)⟩,
               ⟨some 59, none, .iaddr (.slice 2) (.t 55) (.t 58)⟩,
               ⟨some 60, none, .load 2 true (.t 59)⟩,
               ⟨some 61, none, .mov (.t 0)⟩,
               ⟨some 62, none, .mov (.t 11)⟩,
               ⟨some 63, none, .iaddr (.slice 2) (.t 61) (.t 62)⟩,
               ⟨some 64, none, .load 2 true (.t 63)⟩,
               ⟨some 65, none, .iaddr (.slice 2) (.t 49) (.t 50)⟩,
               ⟨none, none, .store 2 (.t 65) (.t 60)⟩,
               ⟨some 66, none, .iaddr (.slice 2) (.t 51) (.t 54)⟩,
               ⟨none, none, .store 2 (.t 66) (.t 64)⟩]))))
           (.reg [⟨some 36, none, .mov (.t 11)⟩,
            ⟨some 37, none, .bin .add (.t 36) (.c (.int .i64 1))⟩,
            ⟨some 11, none, .mov (.t 37)⟩])))
/-- slices.breakPatternsCmpFunc[tracebook/api.Span] -/
def c42 : AFn := ⟨4, 67, [],
 (.seq
  (.reg [⟨some 13, none, .mov (.t 2)⟩,
   ⟨some 14, none, .mov (.t 1)⟩,
   ⟨some 15, none, .bin .sub (.t 13) (.t 14)⟩,
   ⟨some 8, none, .mov (.t 15)⟩])
  (.seq
   (.reg [⟨some 16, none, .mov (.t 8)⟩,
    ⟨some 17, none, .bin .geq (.t 16) (.c (.int .i64 8))⟩])
   (.cond (.t 17)
    (.seq
     (.reg [⟨some 18, none, .mov (.t 8)⟩,
      ⟨some 19, none, .conv (.int .u64) (.t 18)⟩,
      ⟨some 9, none, .alloc [(.int .u64 0)]⟩,
      ⟨none, none, .store 1 (.t 9) (.t 19)⟩])
     (.seq
      (.reg [⟨some 20, none, .mov (.t 8)⟩,
       ⟨some 21, none, .call false 52 [(.t 20)]⟩,
       ⟨some 10, none, .mov (.t 21)⟩])
      (.seq
       (.reg [⟨some 22, none, .mov (.t 1)⟩,
        ⟨some 23, none, .mov (.t 8)⟩,
        ⟨some 24, none, .bin .quo (.t 23) (.c (.int .i64 4))⟩,
        ⟨some 25, none, .bin .mul (.t 24) (.c (.int .i64 2))⟩,
        ⟨some 26, none, .bin .add (.t 22) (.t 25)⟩,
        ⟨some 27, none, .bin .sub (.t 26) (.c (.int .i64 1))⟩,
        ⟨some 11, none, .mov (.t 27)⟩])
       (.block 0
        (.loop [0, 1, 8, 9, 10, 11]
         c42b0)))))
    .skip))), none⟩
def k42 : List (List Nat) := [[0, 1, 8, 9, 10, 11]]
def o42 : List Nat := [1000028, 1000034, 1000040, 1000041, 1000042, 1000043, 1000044, 1000045, 1000046, 1000047, 1000051, 1000054, 1000055, 1000056]
/-- slices.choosePivotCmpFunc[tracebook/api.Span] -/
def c43 : AFn := ⟨4, 63, [.t 8, .t 9],
 (.seq
  (.reg [⟨some 8, none, .mov (.c (.int .i64 0))⟩,
   ⟨some 9, none, .mov (.c (.int .i64 0))⟩])
  (.seq
   (.reg [⟨some 15, none, .mov (.t 2)⟩,
    ⟨some 16, none, .mov (.t 1)⟩,
    ⟨some 17, none, .bin .sub (.t 15) (.t 16)⟩,
    ⟨some 10, none, .mov (.t 17)⟩])
   (.seq
    (.reg [⟨some 11, none, .alloc [(.int .i64 0)]⟩])
    (.seq
     (.reg [⟨some 18, none, .mov (.t 1)⟩,
      ⟨some 19, none, .mov (.t 10)⟩,
      ⟨some 20, none, .bin .quo (.t 19) (.c (.int .i64 4))⟩,
      ⟨some 21, none, .bin .mul (.t 20) (.c (.int .i64 1))⟩,
      ⟨some 22, none, .bin .add (.t 18) (.t 21)⟩,
      ⟨some 12, none, .mov (.t 22)⟩])
     (.seq
      (.reg [⟨some 23, none, .mov (.t 1)⟩,
       ⟨some 24, none, .mov (.t 10)⟩,
       ⟨some 25, none, .bin .quo (.t 24) (.c (.int .i64 4))⟩,
       ⟨some 26, none, .bin .mul (.t 25) (.c (.int .i64 2))⟩,
       ⟨some 27, none, .bin .add (.t 23) (.t 26)⟩,
       ⟨some 13, none, .mov (.t 27)⟩])
      (.seq
       (.reg [⟨some 28, none, .mov (.t 1)⟩,
        ⟨some 29, none, .mov (.t 10)⟩,
        ⟨some 30, none, .bin .quo (.t 29) (.c (.int .i64 4))⟩,
        ⟨some 31, none, .bin .mul (.t 30) (.c (.int .i64 3))⟩,
        ⟨some 32, none, .bin .add (.t 28) (.t 31)⟩,
        ⟨some 14, none, .mov (.t 32)⟩])
       (.seq
        (.seq
         (.reg [⟨some 33, none, .mov (.t 10)⟩,
          ⟨some 34, none, .bin .geq (.t 33) (.c (.int .i64 8))⟩])
         (.cond (.t 34)
          (.seq
           (.seq
            (.reg [⟨some 35, none, .mov (.t 10)⟩,
             ⟨some 36, none, .bin .geq (.t 35) (.c (.int .i64 50))⟩])
            (.cond (.t 36)
             (.seq
              (.reg [⟨some 37, none, .mov (.t 0)⟩,
               ⟨some 38, none, .mov (.t 12)⟩,
               ⟨some 39, none, .mov (.t 3)⟩,
               ⟨some 40, none, .callS 54 [(.t 37), (.t 38), (.t 11), (.t 39)]⟩,
               ⟨some 12, none, .mov (.t 40)⟩])
              (.seq
               (.reg [⟨some 41, none, .mov (.t 0)⟩,
                ⟨some 42, none, .mov (.t 13)⟩,
                ⟨some 43, none, .mov (.t 3)⟩,
                ⟨some 44, none, .callS 54 [(.t 41), (.t 42), (.t 11), (.t 43)]⟩,
                ⟨some 13, none, .mov (.t 44)⟩])
               (.reg [⟨some 45, none, .mov (.t 0)⟩,
                ⟨some 46, none, .mov (.t 14)⟩,
                ⟨some 47, none, .mov (.t 3)⟩,
                ⟨some 48, none, .callS 54 [(.t 45), (.t 46), (.t 11), (.t 47)]⟩,
                ⟨some 14, none, .mov (.t 48)⟩])))
             .skip))
           (.reg [⟨some 49, none, .mov (.t 0)⟩,
            ⟨some 50, none, .mov (.t 12)⟩,
            ⟨some 51, none, .mov (.t 13)⟩,
            ⟨some 52, none, .mov (.t 14)⟩,
            ⟨some 53, none, .mov (.t 3)⟩,
            ⟨some 54, none, .callS 55 [(.t 49), (.t 50), (.t 51), (.t 52), (.t 11), (.t 53)]⟩,
            ⟨some 13, none, .mov (.t 54)⟩]))
          .skip))
        (.seq
         (.reg [⟨some 55, none, .load 1 false (.t 11)⟩])
         (.block 0
          (.seq
           (.reg [⟨some 58, none, .bin .eql (.t 55) (.c (.int .i64 0))⟩,
            ⟨some 57, none, .mov (.t 58)⟩])
           (.cond (.t 57)
            (.seq
             (.reg [⟨some 59, none, .mov (.t 13)⟩,
              ⟨some 8, none, .mov (.t 59)⟩,
              ⟨some 9, none, .mov (.c (.int .i64 1))⟩])
             .ret)
            (.seq
             (.reg [⟨some 61, none, .bin .eql (.t 55) (.c (.int .i64 12))⟩,
              ⟨some 60, none, .mov (.t 61)⟩])
             (.cond (.t 60)
              (.seq
               (.reg [⟨some 62, none, .mov (.t 13)⟩,
                ⟨some 8, none, .mov (.t 62)⟩,
                ⟨some 9, none, .mov (.c (.int .i64 2))⟩])
               .ret)
              (.seq
               (.reg [⟨some 56, none, .mov (.t 13)⟩,
                ⟨some 8, none, .mov (.t 56)⟩,
                ⟨some 9, none, .mov (.c (.int .i64 0))⟩])
               .ret)))))))))))))), none⟩
def k43 : List (List Nat) := []
def o43 : List Nat := [1000028, 1000034, 1000040, 1000041, 1000042, 1000043, 1000044, 1000045, 1000046, 1000047, 1000051, 1000054, 1000055, 1000056]
def c44b0 : AC := (.seq
      (.seq
       (.reg [⟨some 13, none, .mov (.t 8)⟩,
        ⟨some 14, none, .mov (.t 9)⟩,
        ⟨some 15, none, .bin .lss (.t 13) (.t 14)⟩])
       (.cond (.t 15)
        .skip
        (.exit 0)))
      (.block 1
       (.seq
        (.reg [⟨some 16, none, .mov (.t 0)⟩,
         ⟨some 17, none, .mov (.t 8)⟩,
         ⟨some 18, none, .mov (.t 0)⟩,
         ⟨some 19, none, .mov (.t 9)⟩,
         ⟨some 20, none, .mov (.t 0)⟩,
         ⟨some 21, none, .mov (.t 9)⟩,
         ⟨some 22, none, .iaddr (.slice 2) (.t 20) (.t 21)⟩,
         ⟨some 23, none, .load 2 true (.t 22)⟩,
         ⟨some 24, none, .mov (.t 0)⟩,
         ⟨some 25, none, .mov (.t 8)⟩,
         ⟨some 26, none, .iaddr (.slice 2) (.t 24) (.t 25)⟩,
         ⟨some 27, none, .load 2 true (.t 26)⟩,
         ⟨some 28, none, .iaddr (.slice 2) (.t 16) (.t 17)⟩,
         ⟨none, none, .store 2 (.t 28) (.t 23)⟩,
         ⟨some 29, none, .iaddr (.slice 2) (.t 18) (.t 19)⟩,
         ⟨none, none, .store 2 (.t 29) (.t 27)⟩])
        (.seq
         (.reg [⟨some 30, none, .mov (.t 8)⟩,
          ⟨some 31, none, .bin .add (.t 30) (.c (.int .i64 1))⟩,
          ⟨some 8, none, .mov (.t 31)⟩])
         (.reg [⟨some 32, none, .mov (.t 9)⟩,
          ⟨some 33, none, .bin .sub (.t 32) (.c (.int .i64 1))⟩,
          ⟨some 9, none, .mov (.t 33)⟩])))))
/-- slices.reverseRangeCmpFunc[tracebook/api.Span] -/
def c44 : AFn := ⟨4, 34, [],
 (.seq
  (.reg [⟨some 10, none, .mov (.t 1)⟩,
   ⟨some 8, none, .mov (.t 10)⟩])
  (.seq
   (.reg [⟨some 11, none, .mov (.t 2)⟩,
    ⟨some 12, none, .bin .sub (.t 11) (.c (.int .i64 1))⟩,
    ⟨some 9, none, .mov (.t 12)⟩])
   (.block 0
    (.loop [0, 8, 9]
     c44b0)))), none⟩
def k44 : List (List Nat) := [[0, 8, 9]]
def o44 : List Nat := [1000028, 1000034, 1000040, 1000041, 1000042, 1000043, 1000044, 1000045, 1000046, 1000047, 1000051, 1000054, 1000055, 1000056]
def c45b0 : AC := (.seq
                     (.seq
                      (.reg [⟨some 107, none, .mov (.t 12)⟩,
                       ⟨some 108, none, .mov (.t 2)⟩,
                       ⟨some 109, none, .bin .lss (.t 107) (.t 108)⟩])
                      (.cond (.t 109)
                       .skip
                       (.exit 6)))
                     (.seq
                      (.block 7
                       (.seq
                        (.seq
                         (.reg [⟨some 112, none, .mov (.t 3)⟩,
                          ⟨some 113, none, .mov (.t 0)⟩,
                          ⟨some 114, none, .mov (.t 12)⟩,
                          ⟨some 115, none, .iaddr (.slice 2) (.t 113) (.t 114)⟩,
                          ⟨some 116, none, .load 2 true (.t 115)⟩,
                          ⟨some 117, none, .mov (.t 0)⟩,
                          ⟨some 118, none, .mov (.t 12)⟩,
                          ⟨some 119, none, .bin .sub (.t 118) (.c (.int .i64 1))⟩,
                          ⟨some 120, none, .iaddr (.slice 2) (.t 117) (.t 119)⟩,
                          ⟨some 121, none, .load 2 true (.t 120)⟩,
                          ⟨some 122, none, .calld false (.t 112) [(.t 116), (.t 121)]⟩,
                          ⟨some 123, none, .bin .lss (.t 122) (.c (.int .i64 0))⟩,
                          ⟨some 124, none, .un .not (.t 123)⟩])
                         (.cond (.t 124)
                          (.exit 6)
                          .skip))
                        (.reg [⟨some 125, none, .mov (.t 0)⟩,
                         ⟨some 126, none, .mov (.t 12)⟩,
                         ⟨some 127, none, .mov (.t 0)⟩,
                         ⟨some 128, none, .mov (.t 12)⟩,
                         ⟨some 129, none, .bin .sub (.t 128) (.c (.int .i64 1))⟩,
                         ⟨some 130, none, .mov (.t 0)⟩,
                         ⟨some 131, none, .mov (.t 12)⟩,
                         ⟨some 132, none, .bin .sub (.t 131) (.c (.int .i64 1))⟩,
                         ⟨some 133, none, .iaddr (.slice 2) (.t 130) (.t 132)⟩,
                         ⟨some 134, none, .load 2 true (.t 133)⟩,
                         ⟨some 135, none, .mov (.t 0)⟩,
                         ⟨some 136, none, .mov (.t 12)⟩,
                         ⟨some 137, none, .iaddr (.slice 2) (.t 135) (.t 136)⟩,
                         ⟨some 138, none, .load 2 true (.t 137)⟩,
                         ⟨some 139, none, .iaddr (.slice 2) (.t 125) (.t 126)⟩,
                         ⟨none, none, .store 2 (.t 139) (.t 134)⟩,
                         ⟨some 140, none, .iaddr (.slice 2) (.t 127) (.t 129)⟩,
                         ⟨none, none, .store 2 (.t 140) (.t 138)⟩])))
                      (.reg [⟨some 110, none, .mov (.t 12)⟩,
                       ⟨some 111, none, .bin .add (.t 110) (.c (.int .i64 1))⟩,
                       ⟨some 12, none, .mov (.t 111)⟩])))
def c45b1 : AC := (.seq
                     (.seq
                      (.reg [⟨some 68, none, .mov (.t 11)⟩,
                       ⟨some 69, none, .bin .geq (.t 68) (.c (.int .i64 1))⟩])
                      (.cond (.t 69)
                       .skip
                       (.exit 4)))
                     (.seq
                      (.block 5
                       (.seq
                        (.seq
                         (.reg [⟨some 72, none, .mov (.t 3)⟩,
                          ⟨some 73, none, .mov (.t 0)⟩,
                          ⟨some 74, none, .mov (.t 11)⟩,
                          ⟨some 75, none, .iaddr (.slice 2) (.t 73) (.t 74)⟩,
                          ⟨some 76, none, .load 2 true (.t 75)⟩,
                          ⟨some 77, none, .mov (.t 0)⟩,
                          ⟨some 78, none, .mov (.t 11)⟩,
                          ⟨some 79, none, .bin .sub (.t 78) (.c (.int .i64 1))⟩,
                          ⟨some 80, none, .iaddr (.slice 2) (.t 77) (.t 79)⟩,
                          ⟨some 81, none, .load 2 true (.t 80)⟩,
                          ⟨some 82, none, .calld false (.t 72) [(.t 76), (.t 81)]⟩,
                          ⟨some 83, none, .bin .lss (.t 82) (.c (.int .i64 0))⟩,
                          ⟨some 84, none, .un .not (.t 83)⟩])
                         (.cond (.t 84)
                          (.exit 4)
                          .skip))
                        (.reg [⟨some 85, none, .mov (.t 0)⟩,
                         ⟨some 86, none, .mov (.t 11)⟩,
                         ⟨some 87, none, .mov (.t 0)⟩,
                         ⟨some 88, none, .mov (.t 11)⟩,
                         ⟨some 89, none, .bin .sub (.t 88) (.c (.int .i64 1))⟩,
                         ⟨some 90, none, .mov (.t 0)⟩,
                         ⟨some 91, none, .mov (.t 11)⟩,
                         ⟨some 92, none, .bin .sub (.t 91) (.c (.int .i64 1))⟩,
                         ⟨some 93, none, .iaddr (.slice 2) (.t 90) (.t 92)⟩,
                         ⟨some 94, none, .load 2 true (.t 93)⟩,
                         ⟨some 95, none, .mov (.t 0)⟩,
                         ⟨some 96, none, .mov (.t 11)⟩,
                         ⟨some 97, none, .iaddr (.slice 2) (.t 95) (.t 96)⟩,
                         ⟨some 98, none, .load 2 true (.t 97)⟩,
                         ⟨some 99, none, .iaddr (.slice 2) (.t 85) (.t 86)⟩,
                         ⟨none, none, .store 2 (.t 99) (.t 94)⟩,
                         ⟨some 100, none, .iaddr (.slice 2) (.t 87) (.t 89)⟩,
                         ⟨none, none, .store 2 (.t 100) (.t 98)⟩])))
                      (.reg [⟨some 70, none, .mov (.t 11)⟩,
                       ⟨some 71, none, .bin .sub (.t 70) (.c (.int .i64 1))⟩,
                       ⟨some 11, none, .mov (.t 71)⟩])))
def c45b2 : AC := (.seq
              (.seq
               (.reg [⟨some 19, none, .mov (.t 9)⟩,
                ⟨some 20, none, .mov (.t 2)⟩,
                ⟨some 21, none, .bin .lss (.t 19) (.t 20)⟩,
                ⟨some 22, none, .mov (.t 21)⟩,
                ⟨some 23, some (22, true), .mov (.t 3)⟩,
                ⟨some 24, some (22, true), .mov (.t 0)⟩,
                ⟨some 25, some (22, true), .mov (.t 9)⟩,
                ⟨some 26, some (22, true), .iaddr (.slice 2) (.t 24) (.t 25)⟩,
                ⟨some 27, some (22, true), .load 2 true (.t 26)⟩,
                ⟨some 28, some (22, true), .mov (.t 0)⟩,
                ⟨some 29, some (22, true), .mov (.t 9)⟩,
                ⟨some 30, some (22, true), .bin .sub (.t 29) (.c (.int .i64 1))⟩,
                ⟨some 31, some (22, true), .iaddr (.slice 2) (.t 28) (.t 30)⟩,
                ⟨some 32, some (22, true), .load 2 true (.t 31)⟩,
                ⟨some 33, some (22, true), .calld false (.t 23) [(.t 27), (.t 32)]⟩,
                ⟨some 34, some (22, true), .bin .lss (.t 33) (.c (.int .i64 0))⟩,
                ⟨some 35, some (22, true), .un .not (.t 34)⟩,
                ⟨some 36, none, .pick (.t 22) (.t 35) (.c (.bool false))⟩])
               (.cond (.t 36)
                .skip
                (.exit 2)))
              (.block 3
               (.reg [⟨some 37, none, .mov (.t 9)⟩,
                ⟨some 38, none, .bin .add (.t 37) (.c (.int .i64 1))⟩,
                ⟨some 9, none, .mov (.t 38)⟩])))
def c45r0 : AC := (.seq
                (.reg [⟨some 101, none, .mov (.t 2)⟩,
                 ⟨some 102, none, .mov (.t 9)⟩,
                 ⟨some 103, none, .bin .sub (.t 101) (.t 102)⟩,
                 ⟨some 104, none, .bin .geq (.t 103) (.c (.int .i64 2))⟩])
                (.cond (.t 104)
                 (.seq
                  (.reg [⟨some 105, none, .mov (.t 9)⟩,
                   ⟨some 106, none, .bin .add (.t 105) (.c (.int .i64 1))⟩,
                   ⟨some 12, none, .mov (.t 106)⟩])
                  (.block 6
                   (.loop [0, 1, 2, 3, 9, 10, 12]
                    c45b0)))
                 .skip))
def c45r1 : AC := (.seq
            (.seq
             (.reg [⟨some 39, none, .mov (.t 9)⟩,
              ⟨some 40, none, .mov (.t 2)⟩,
              ⟨some 41, none, .bin .eql (.t 39) (.t 40)⟩])
             (.cond (.t 41)
              (.seq
               (.reg [⟨some 8, none, .mov (.c (.bool true))⟩])
               .ret)
              .skip))
            (.seq
             (.seq
              (.reg [⟨some 42, none, .mov (.t 2)⟩,
               ⟨some 43, none, .mov (.t 1)⟩,
               ⟨some 44, none, .bin .sub (.t 42) (.t 43)⟩,
               ⟨some 45, none, .bin .lss (.t 44) (.c (.int .i64 50))⟩])
              (.cond (.t 45)
               (.seq
                (.reg [⟨some 8, none, .mov (.c (.bool false))⟩])
                .ret)
               .skip))
             (.seq
              (.reg [⟨some 46, none, .mov (.t 0)⟩,
               ⟨some 47, none, .mov (.t 9)⟩,
               ⟨some 48, none, .mov (.t 0)⟩,
               ⟨some 49, none, .mov (.t 9)⟩,
               ⟨some 50, none, .bin .sub (.t 49) (.c (.int .i64 1))⟩,
               ⟨some 51, none, .mov (.t 0)⟩,
               ⟨some 52, none, .mov (.t 9)⟩,
               ⟨some 53, none, .bin .sub (.t 52) (.c (.int .i64 1))⟩,
               ⟨some 54, none, .iaddr (.slice 2) (.t 51) (.t 53)⟩,
               ⟨some 55, none, .load 2 true (.t 54)⟩,
               ⟨some 56, none, .mov (.t 0)⟩,
               ⟨some 57, none, .mov (.t 9)⟩,
               ⟨some 58, none, .iaddr (.slice 2) (.t 56) (.t 57)⟩,
               ⟨some 59, none, .load 2 true (.t 58)⟩,
               ⟨some 60, none, .iaddr (.slice 2) (.t 46) (.t 47)⟩,
               ⟨none, none, .store 2 (.t 60) (.t 55)⟩,
               ⟨some 61, none, .iaddr (.slice 2) (.t 48) (.t 50)⟩,
               ⟨none, none, .store 2 (.t 61) (.t 59)⟩])
              (.seq
               (.seq
                (.reg [⟨some 62, none, .mov (.t 9)⟩,
                 ⟨some 63, none, .mov (.t 1)⟩,
                 ⟨some 64, none, .bin .sub (.t 62) (.t 63)⟩,
                 ⟨some 65, none, .bin .geq (.t 64) (.c (.int .i64 2))⟩])
                (.cond (.t 65)
                 (.seq
                  (.reg [⟨some 66, none, .mov (.t 9)⟩,
                   ⟨some 67, none, .bin .sub (.t 66) (.c (.int .i64 1))⟩,
                   ⟨some 11, none, .mov (.t 67)⟩])
                  (.block 4
                   (.loop [0, 1, 2, 3, 9, 10, 11]
                    c45b1)))
                 .skip))
               c45r0))))
def c45b3 : AC := (.seq
        (.seq
         (.reg [⟨some 15, none, .mov (.t 10)⟩,
          ⟨some 16, none, .bin .lss (.t 15) (.c (.int .i64 5))⟩])
         (.cond (.t 16)
          .skip
          (.exit 0)))
        (.seq
         (.block 1
          (.seq
           (.block 2
            (.loop [0, 1, 2, 3, 9, 10]
             c45b2))
           c45r1))
         (.reg [⟨some 17, none, .mov (.t 10)⟩,
          ⟨some 18, none, .bin .add (.t 17) (.c (.int .i64 1))⟩,
          ⟨some 10, none, .mov (.t 18)⟩])))
/-- slices.partialInsertionSortCmpFunc[tracebook/api.Span] -/
def c45 : AFn := ⟨4, 141, [.t 8],
 (.seq
  (.reg [⟨some 8, none, .mov (.c (.bool false))⟩])
  (.seq
   (.reg [⟨some 13, none, .mov (.t 1)⟩,
    ⟨some 14, none, .bin .add (.t 13) (.c (.int .i64 1))⟩,
    ⟨some 9, none, .mov (.t 14)⟩])
   (.seq
    (.seq
     (.reg [⟨some 10, none, .mov (.c (.int .i64 0))⟩])
     (.block 0
      (.loop [0, 1, 2, 3, 9, 10]
       c45b3)))
    (.seq
     (.reg [⟨some 8, none, .mov (.c (.bool false))⟩])
     .ret)))), none⟩
def k45 : List (List Nat) := [[0, 1, 2, 3, 9, 10], [0, 1, 2, 3, 9, 10], [0, 1, 2, 3, 9, 10, 11], [0, 1, 2, 3, 9, 10, 12]]
def o45 : List Nat := [1000028, 1000034, 1000040, 1000041, 1000042, 1000043, 1000044, 1000045, 1000046, 1000047, 1000051, 1000054, 1000055, 1000056]
def c46b0 : AC := (.seq
             (.seq
              (.reg [⟨some 50, none, .mov (.t 11)⟩,
               ⟨some 51, none, .mov (.t 12)⟩,
               ⟨some 52, none, .bin .leq (.t 50) (.t 51)⟩,
               ⟨some 53, none, .mov (.t 52)⟩,
               ⟨some 54, some (53, true), .mov (.t 4)⟩,
               ⟨some 55, some (53, true), .mov (.t 0)⟩,
               ⟨some 56, some (53, true), .mov (.t 1)⟩,
               ⟨some 57, some (53, true), .iaddr (.slice 2) (.t 55) (.t 56)⟩,
               ⟨some 58, some (53, true), .load 2 true (.t 57)⟩,
               ⟨some 59, some (53, true), .mov (.t 0)⟩,
               ⟨some 60, some (53, true), .mov (.t 12)⟩,
               ⟨some 61, some (53, true), .iaddr (.slice 2) (.t 59) (.t 60)⟩,
               ⟨some 62, some (53, true), .load 2 true (.t 61)⟩,
               ⟨some 63, some (53, true), .calld false (.t 54) [(.t 58), (.t 62)]⟩,
               ⟨some 64, some (53, true), .bin .lss (.t 63) (.c (.int .i64 0))⟩,
               ⟨some 65, none, .pick (.t 53) (.t 64) (.c (.bool false))⟩])
              (.cond (.t 65)
               .skip
               (.exit 4)))
             (.block 5
              (.reg [⟨some 66, none, .mov (.t 12)⟩,
               ⟨some 67, none, .bin .sub (.t 66) (.c (.int .i64 1))⟩,
               ⟨some 12, none, .mov (.t 67)⟩])))
def c46b1 : AC := (.seq
            (.seq
             (.reg [⟨some 31, none, .mov (.t 11)⟩,
              ⟨some 32, none, .mov (.t 12)⟩,
              ⟨some 33, none, .bin .leq (.t 31) (.t 32)⟩,
              ⟨some 34, none, .mov (.t 33)⟩,
              ⟨some 35, some (34, true), .mov (.t 4)⟩,
              ⟨some 36, some (34, true), .mov (.t 0)⟩,
              ⟨some 37, some (34, true), .mov (.t 1)⟩,
              ⟨some 38, some (34, true), .iaddr (.slice 2) (.t 36) (.t 37)⟩,
              ⟨some 39, some (34, true), .load 2 true (.t 38)⟩,
              ⟨some 40, some (34, true), .mov (.t 0)⟩,
              ⟨some 41, some (34, true), .mov (.t 11)⟩,
              ⟨some 42, some (34, true), .iaddr (.slice 2) (.t 40) (.t 41)⟩,
              ⟨some 43, some (34, true), .load 2 true (.t 42)⟩,
              ⟨some 44, some (34, true), .calld false (.t 35) [(.t 39), (.t 43)]⟩,
              ⟨some 45, some (34, true), .bin .lss (.t 44) (.c (.int .i64 0))⟩,
              ⟨some 46, some (34, true), .un .not (.t 45)⟩,
              ⟨some 47, none, .pick (.t 34) (.t 46) (.c (.bool false))⟩])
             (.cond (.t 47)
              .skip
              (.exit 2)))
            (.block 3
             (.reg [⟨some 48, none, .mov (.t 11)⟩,
              ⟨some 49, none, .bin .add (.t 48) (.c (.int .i64 1))⟩,
              ⟨some 11, none, .mov (.t 49)⟩])))
def c46r0 : AC := (.seq
          (.block 4
           (.loop [0, 1, 4, 11, 12]
            c46b0))
          (.seq
           (.seq
            (.reg [⟨some 68, none, .mov (.t 11)⟩,
             ⟨some 69, none, .mov (.t 12)⟩,
             ⟨some 70, none, .bin .gtr (.t 68) (.t 69)⟩])
            (.cond (.t 70)
             (.exit 0)
             .skip))
           (.seq
            (.reg [⟨some 71, none, .mov (.t 0)⟩,
             ⟨some 72, none, .mov (.t 11)⟩,
             ⟨some 73, none, .mov (.t 0)⟩,
             ⟨some 74, none, .mov (.t 12)⟩,
             ⟨some 75, none, .mov (.t 0)⟩,
             ⟨some 76, none, .mov (.t 12)⟩,
             ⟨some 77, none, .iaddr (.slice 2) (.t 75) (.t 76)⟩,
             ⟨some 78, none, .load 2 true (.t 77)⟩,
             ⟨some 79, none, .mov (.t 0)⟩,
             ⟨some 80, none, .mov (.t 11)⟩,
             ⟨some 81, none, .iaddr (.slice 2) (.t 79) (.t 80)⟩,
             ⟨some 82, none, .load 2 true (.t 81)⟩,
             ⟨some 83, none, .iaddr (.slice 2) (.t 71) (.t 72)⟩,
             ⟨none, none, .store 2 (.t 83) (.t 78)⟩,
             ⟨some 84, none, .iaddr (.slice 2) (.t 73) (.t 74)⟩,
             ⟨none, none, .store 2 (.t 84) (.t 82)⟩])
            (.seq
             (.reg [⟨some 85, none, .mov (.t 11)⟩,
              ⟨some 86, none, .bin .add (.t 85) (.c (.int .i64 1))⟩,
              ⟨some 11, none, .mov (.t 86)⟩])
             (.reg [⟨some 87, none, .mov (.t 12)⟩,
              ⟨some 88, none, .bin .sub (.t 87) (.c (.int .i64 1))⟩,
              ⟨some 12, none, .mov (.t 88)⟩])))))
def c46b2 : AC := (.block 1
        (.seq
         (.block 2
          (.loop [0, 1, 4, 11, 12]
           c46b1))
         c46r0))
/-- slices.partitionEqualCmpFunc[tracebook/api.Span] -/
def c46 : AFn := ⟨5, 90, [.t 10],
 (.seq
  (.reg [⟨some 10, none, .mov (.c (.int .i64 0))⟩])
  (.seq
   (.reg [⟨some 13, none, .mov (.t 0)⟩,
    ⟨some 14, none, .mov (.t 1)⟩,
    ⟨some 15, none, .mov (.t 0)⟩,
    ⟨some 16, none, .mov (.t 3)⟩,
    ⟨some 17, none, .mov (.t 0)⟩,
    ⟨some 18, none, .mov (.t 3)⟩,
    ⟨some 19, none, .iaddr (.slice 2) (.t 17) (.t 18)⟩,
    ⟨some 20, none, .load 2 true (.t 19)⟩,
    ⟨some 21, none, .mov (.t 0)⟩,
    ⟨some 22, none, .mov (.t 1)⟩,
    ⟨some 23, none, .iaddr (.slice 2) (.t 21) (.t 22)⟩,
    ⟨some 24, none, .load 2 true (.t 23)⟩,
    ⟨some 25, none, .iaddr (.slice 2) (.t 13) (.t 14)⟩,
    ⟨none, none, .store 2 (.t 25) (.t 20)⟩,
    ⟨some 26, none, .iaddr (.slice 2) (.t 15) (.t 16)⟩,
    ⟨none, none, .store 2 (.t 26) (.t 24)⟩])
   (.seq
    (.reg [⟨some 27, none, .mov (.t 1)⟩,
     ⟨some 28, none, .bin .add (.t 27) (.c (.int .i64 1))⟩,
     ⟨some 29, none, .mov (.t 2)⟩,
     ⟨some 30, none, .bin .sub (.t 29) (.c (.int .i64 1))⟩,
     ⟨some 11, none, .mov (.t 28)⟩,
     ⟨some 12, none, .mov (.t 30)⟩])
    (.seq
     (.block 0
      (.loop [0, 1, 4, 11, 12]
       c46b2))
     (.seq
      (.reg [⟨some 89, none, .mov (.t 11)⟩,
       ⟨some 10, none, .mov (.t 89)⟩])
      .ret))))), none⟩
def k46 : List (List Nat) := [[0, 1, 4, 11, 12], [0, 1, 4, 11, 12], [0, 1, 4, 11, 12]]
def o46 : List Nat := [1000028, 1000034, 1000040, 1000041, 1000042, 1000043, 1000044, 1000045, 1000046, 1000047, 1000051, 1000054, 1000055, 1000056]
def c47b0 : AC := (.seq
                   (.seq
                    (.reg [⟨some 123, none, .mov (.t 12)⟩,
                     ⟨some 124, none, .mov (.t 13)⟩,
                     ⟨some 125, none, .bin .leq (.t 123) (.t 124)⟩,
                     ⟨some 126, none, .mov (.t 125)⟩,
                     ⟨some 127, some (126, true), .mov (.t 4)⟩,
                     ⟨some 128, some (126, true), .mov (.t 0)⟩,
                     ⟨some 129, some (126, true), .mov (.t 13)⟩,
                     ⟨some 130, some (126, true), .iaddr (.slice 2) (.t 128) (.t 129)⟩,
                     ⟨some 131, some (126, true), .load 2 true (.t 130)⟩,
                     ⟨some 132, some (126, true), .mov (.t 0)⟩,
                     ⟨some 133, some (126, true), .mov (.t 1)⟩,
                     ⟨some 134, some (126, true), .iaddr (.slice 2) (.t 132) (.t 133)⟩,
                     ⟨some 135, some (126, true), .load 2 true (.t 134)⟩,
                     ⟨some 136, some (126, true), .calld false (.t 127) [(.t 131), (.t 135)]⟩,
                     ⟨some 137, some (126, true), .bin .lss (.t 136) (.c (.int .i64 0))⟩,
                     ⟨some 138, some (126, true), .un .not (.t 137)⟩,
                     ⟨some 139, none, .pick (.t 126) (.t 138) (.c (.bool false))⟩])
                    (.cond (.t 139)
                     .skip
                     (.exit 8)))
                   (.block 9
                    (.reg [⟨some 140, none, .mov (.t 13)⟩,
                     ⟨some 141, none, .bin .sub (.t 140) (.c (.int .i64 1))⟩,
                     ⟨some 13, none, .mov (.t 141)⟩])))
def c47b1 : AC := (.seq
                  (.seq
                   (.reg [⟨some 105, none, .mov (.t 12)⟩,
                    ⟨some 106, none, .mov (.t 13)⟩,
                    ⟨some 107, none, .bin .leq (.t 105) (.t 106)⟩,
                    ⟨some 108, none, .mov (.t 107)⟩,
                    ⟨some 109, some (108, true), .mov (.t 4)⟩,
                    ⟨some 110, some (108, true), .mov (.t 0)⟩,
                    ⟨some 111, some (108, true), .mov (.t 12)⟩,
                    ⟨some 112, some (108, true), .iaddr (.slice 2) (.t 110) (.t 111)⟩,
                    ⟨some 113, some (108, true), .load 2 true (.t 112)⟩,
                    ⟨some 114, some (108, true), .mov (.t 0)⟩,
                    ⟨some 115, some (108, true), .mov (.t 1)⟩,
                    ⟨some 116, some (108, true), .iaddr (.slice 2) (.t 114) (.t 115)⟩,
                    ⟨some 117, some (108, true), .load 2 true (.t 116)⟩,
                    ⟨some 118, some (108, true), .calld false (.t 109) [(.t 113), (.t 117)]⟩,
                    ⟨some 119, some (108, true), .bin .lss (.t 118) (.c (.int .i64 0))⟩,
                    ⟨some 120, none, .pick (.t 108) (.t 119) (.c (.bool false))⟩])
                   (.cond (.t 120)
                    .skip
                    (.exit 6)))
                  (.block 7
                   (.reg [⟨some 121, none, .mov (.t 12)⟩,
                    ⟨some 122, none, .bin .add (.t 121) (.c (.int .i64 1))⟩,
                    ⟨some 12, none, .mov (.t 122)⟩])))
def c47r0 : AC := (.seq
                (.block 8
                 (.loop [0, 1, 4, 12, 13]
                  c47b0))
                (.seq
                 (.seq
                  (.reg [⟨some 142, none, .mov (.t 12)⟩,
                   ⟨some 143, none, .mov (.t 13)⟩,
                   ⟨some 144, none, .bin .gtr (.t 142) (.t 143)⟩])
                  (.cond (.t 144)
                   (.exit 4)
                   .skip))
                 (.seq
                  (.reg [⟨some 145, none, .mov (.t 0)⟩,
                   ⟨some 146, none, .mov (.t 12)⟩,
                   ⟨some 147, none, .mov (.t 0)⟩,
                   ⟨some 148, none, .mov (.t 13)⟩,
                   ⟨some 149, none, .mov (.t 0)⟩,
                   ⟨some 150, none, .mov (.t 13)⟩,
                   ⟨some 151, none, .iaddr (.slice 2) (.t 149) (.t 150)⟩,
                   ⟨some 152, none, .load 2 true (.t 151)⟩,
                   ⟨some 153, none, .mov (.t 0)⟩,
                   ⟨some 154, none, .mov (.t 12)⟩,
                   ⟨some 155, none, .iaddr (.slice 2) (.t 153) (.t 154)⟩,
                   ⟨some 156, none, .load 2 true (.t 155)⟩,
                   ⟨some 157, none, .iaddr (.slice 2) (.t 145) (.t 146)⟩,
                   ⟨none, none, .store 2 (.t 157) (.t 152)⟩,
                   ⟨some 158, none, .iaddr (.slice 2) (.t 147) (.t 148)⟩,
                   ⟨none, none, .store 2 (.t 158) (.t 156)⟩])
                  (.seq
                   (.reg [⟨some 159, none, .mov (.t 12)⟩,
                    ⟨some 160, none, .bin .add (.t 159) (.c (.int .i64 1))⟩,
                    ⟨some 12, none, .mov (.t 160)⟩])
                   (.reg [⟨some 161, none, .mov (.t 13)⟩,
                    ⟨some 162, none, .bin .sub (.t 161) (.c (.int .i64 1))⟩,
                    ⟨some 13, none, .mov (.t 162)⟩])))))
def c47b2 : AC := (.block 5
              (.seq
               (.block 6
                (.loop [0, 1, 4, 12, 13]
                 c47b1))
               c47r0))
def c47b3 : AC := (.seq
         (.seq
          (.reg [⟨some 50, none, .mov (.t 12)⟩,
           ⟨some 51, none, .mov (.t 13)⟩,
           ⟨some 52, none, .bin .leq (.t 50) (.t 51)⟩,
           ⟨some 53, none, .mov (.t 52)⟩,
           ⟨some 54, some (53, true), .mov (.t 4)⟩,
           ⟨some 55, some (53, true), .mov (.t 0)⟩,
           ⟨some 56, some (53, true), .mov (.t 13)⟩,
           ⟨some 57, some (53, true), .iaddr (.slice 2) (.t 55) (.t 56)⟩,
           ⟨some 58, some (53, true), .load 2 true (.t 57)⟩,
           ⟨some 59, some (53, true), .mov (.t 0)⟩,
           ⟨some 60, some (53, true), .mov (.t 1)⟩,
           ⟨some 61, some (53, true), .iaddr (.slice 2) (.t 59) (.t 60)⟩,
           ⟨some 62, some (53, true), .load 2 true (.t 61)⟩,
           ⟨some 63, some (53, true), .calld false (.t 54) [(.t 58), (.t 62)]⟩,
           ⟨some 64, some (53, true), .bin .lss (.t 63) (.c (.int .i64 0))⟩,
           ⟨some 65, some (53, true), .un .not (.t 64)⟩,
           ⟨some 66, none, .pick (.t 53) (.t 65) (.c (.bool false))⟩])
          (.cond (.t 66)
           .skip
           (.exit 2)))
         (.block 3
          (.reg [⟨some 67, none, .mov (.t 13)⟩,
           ⟨some 68, none, .bin .sub (.t 67) (.c (.int .i64 1))⟩,
           ⟨some 13, none, .mov (.t 68)⟩])))
def c47b4 : AC := (.seq
        (.seq
         (.reg [⟨some 32, none, .mov (.t 12)⟩,
          ⟨some 33, none, .mov (.t 13)⟩,
          ⟨some 34, none, .bin .leq (.t 32) (.t 33)⟩,
          ⟨some 35, none, .mov (.t 34)⟩,
          ⟨some 36, some (35, true), .mov (.t 4)⟩,
          ⟨some 37, some (35, true), .mov (.t 0)⟩,
          ⟨some 38, some (35, true), .mov (.t 12)⟩,
          ⟨some 39, some (35, true), .iaddr (.slice 2) (.t 37) (.t 38)⟩,
          ⟨some 40, some (35, true), .load 2 true (.t 39)⟩,
          ⟨some 41, some (35, true), .mov (.t 0)⟩,
          ⟨some 42, some (35, true), .mov (.t 1)⟩,
          ⟨some 43, some (35, true), .iaddr (.slice 2) (.t 41) (.t 42)⟩,
          ⟨some 44, some (35, true), .load 2 true (.t 43)⟩,
          ⟨some 45, some (35, true), .calld false (.t 36) [(.t 40), (.t 44)]⟩,
          ⟨some 46, some (35, true), .bin .lss (.t 45) (.c (.int .i64 0))⟩,
          ⟨some 47, none, .pick (.t 35) (.t 46) (.c (.bool false))⟩])
         (.cond (.t 47)
          .skip
          (.exit 0)))
        (.block 1
         (.reg [⟨some 48, none, .mov (.t 12)⟩,
          ⟨some 49, none, .bin .add (.t 48) (.c (.int .i64 1))⟩,
          ⟨some 12, none, .mov (.t 49)⟩])))
def c47r1 : AC := (.seq
       (.seq
        (.reg [⟨some 69, none, .mov (.t 12)⟩,
         ⟨some 70, none, .mov (.t 13)⟩,
         ⟨some 71, none, .bin .gtr (.t 69) (.t 70)⟩])
        (.cond (.t 71)
         (.seq
          (.reg [⟨some 72, none, .mov (.t 0)⟩,
           ⟨some 73, none, .mov (.t 13)⟩,
           ⟨some 74, none, .mov (.t 0)⟩,
           ⟨some 75, none, .mov (.t 1)⟩,
           ⟨some 76, none, .mov (.t 0)⟩,
           ⟨some 77, none, .mov (.t 1)⟩,
           ⟨some 78, none, .iaddr (.slice 2) (.t 76) (.t 77)⟩,
           ⟨some 79, none, .load 2 true (.t 78)⟩,
           ⟨some 80, none, .mov (.t 0)⟩,
           ⟨some 81, none, .mov (.t 13)⟩,
           ⟨some 82, none, .iaddr (.slice 2) (.t 80) (.t 81)⟩,
           ⟨some 83, none, .load 2 true (.t 82)⟩,
           ⟨some 84, none, .iaddr (.slice 2) (.t 72) (.t 73)⟩,
           ⟨none, none, .store 2 (.t 84) (.t 79)⟩,
           ⟨some 85, none, .iaddr (.slice 2) (.t 74) (.t 75)⟩,
           ⟨none, none, .store 2 (.t 85) (.t 83)⟩])
          (.seq
           (.reg [⟨some 86, none, .mov (.t 13)⟩,
            ⟨some 10, none, .mov (.t 86)⟩,
            ⟨some 11, none, .mov (.c (.bool true))⟩])
           .ret))
         .skip))
       (.seq
        (.reg [⟨some 87, none, .mov (.t 0)⟩,
         ⟨some 88, none, .mov (.t 12)⟩,
         ⟨some 89, none, .mov (.t 0)⟩,
         ⟨some 90, none, .mov (.t 13)⟩,
         ⟨some 91, none, .mov (.t 0)⟩,
         ⟨some 92, none, .mov (.t 13)⟩,
         ⟨some 93, none, .iaddr (.slice 2) (.t 91) (.t 92)⟩,
         ⟨some 94, none, .load 2 true (.t 93)⟩,
         ⟨some 95, none, .mov (.t 0)⟩,
         ⟨some 96, none, .mov (.t 12)⟩,
         ⟨some 97, none, .iaddr (.slice 2) (.t 95) (.t 96)⟩,
         ⟨some 98, none, .load 2 true (.t 97)⟩,
         ⟨some 99, none, .iaddr (.slice 2) (.t 87) (.t 88)⟩,
         ⟨none, none, .store 2 (.t 99) (.t 94)⟩,
         ⟨some 100, none, .iaddr (.slice 2) (.t 89) (.t 90)⟩,
         ⟨none, none, .store 2 (.t 100) (.t 98)⟩])
        (.seq
         (.reg [⟨some 101, none, .mov (.t 12)⟩,
          ⟨some 102, none, .bin .add (.t 101) (.c (.int .i64 1))⟩,
          ⟨some 12, none, .mov (.t 102)⟩])
         (.seq
          (.reg [⟨some 103, none, .mov (.t 13)⟩,
           ⟨some 104, none, .bin .sub (.t 103) (.c (.int .i64 1))⟩,
           ⟨some 13, none, .mov (.t 104)⟩])
          (.seq
           (.block 4
            (.loop [0, 1, 4, 12, 13]
             c47b2))
           (.seq
            (.reg [⟨some 163, none, .mov (.t 0)⟩,
             ⟨some 164, none, .mov (.t 13)⟩,
             ⟨some 165, none, .mov (.t 0)⟩,
             ⟨some 166, none, .mov (.t 1)⟩,
             ⟨some 167, none, .mov (.t 0)⟩,
             ⟨some 168, none, .mov (.t 1)⟩,
             ⟨some 169, none, .iaddr (.slice 2) (.t 167) (.t 168)⟩,
             ⟨some 170, none, .load 2 true (.t 169)⟩,
             ⟨some 171, none, .mov (.t 0)⟩,
             ⟨some 172, none, .mov (.t 13)⟩,
             ⟨some 173, none, .iaddr (.slice 2) (.t 171) (.t 172)⟩,
             ⟨some 174, none, .load 2 true (.t 173)⟩,
             ⟨some 175, none, .iaddr (.slice 2) (.t 163) (.t 164)⟩,
             ⟨none, none, .store 2 (.t 175) (.t 170)⟩,
             ⟨some 176, none, .iaddr (.slice 2) (.t 165) (.t 166)⟩,
             ⟨none, none, .store 2 (.t 176) (.t 174)⟩])
            (.seq
             (.reg [⟨some 177, none, .mov (.t 13)⟩,
              ⟨some 10, none, .mov (.t 177)⟩,
              ⟨some 11, none, .mov (.c (.bool false))⟩])
             .ret)))))))
def c47r2 : AC := (.seq
      (.block 2
       (.loop [0, 1, 4, 12, 13]
        c47b3))
      c47r1)
/-- slices.partitionCmpFunc[tracebook/api.Span] -/
def c47 : AFn := ⟨5, 178, [.t 10, .t 11],
 (.seq
  (.reg [⟨some 10, none, .mov (.c (.int .i64 0))⟩,
   ⟨some 11, none, .mov (.c (.bool false))⟩])
  (.seq
   (.reg [⟨some 14, none, .mov (.t 0)⟩,
    ⟨some 15, none, .mov (.t 1)⟩,
    ⟨some 16, none, .mov (.t 0)⟩,
    ⟨some 17, none, .mov (.t 3)⟩,
    ⟨some 18, none, .mov (.t 0)⟩,
    ⟨some 19, none, .mov (.t 3)⟩,
    ⟨some 20, none, .iaddr (.slice 2) (.t 18) (.t 19)⟩,
    ⟨some 21, none, .load 2 true (.t 20)⟩,
    ⟨some 22, none, .mov (.t 0)⟩,
    ⟨some 23, none, .mov (.t 1)⟩,
    ⟨some 24, none, .iaddr (.slice 2) (.t 22) (.t 23)⟩,
    ⟨some 25, none, .load 2 true (.t 24)⟩,
    ⟨some 26, none, .iaddr (.slice 2) (.t 14) (.t 15)⟩,
    ⟨none, none, .store 2 (.t 26) (.t 21)⟩,
    ⟨some 27, none, .iaddr (.slice 2) (.t 16) (.t 17)⟩,
    ⟨none, none, .store 2 (.t 27) (.t 25)⟩])
   (.seq
    (.reg [⟨some 28, none, .mov (.t 1)⟩,
     ⟨some 29, none, .bin .add (.t 28) (.c (.int .i64 1))⟩,
     ⟨some 30, none, .mov (.t 2)⟩,
     ⟨some 31, none, .bin .sub (.t 30) (.c (.int .i64 1))⟩,
     ⟨some 12, none, .mov (.t 29)⟩,
     ⟨some 13, none, .mov (.t 31)⟩])
    (.seq
     (.block 0
      (.loop [0, 1, 4, 12, 13]
       c47b4))
     c47r2)))), none⟩
def k47 : List (List Nat) := [[0, 1, 4, 12, 13], [0, 1, 4, 12, 13], [0, 1, 4, 12, 13], [0, 1, 4, 12, 13], [0, 1, 4, 12, 13]]
def o47 : List Nat := [1000028, 1000034, 1000040, 1000041, 1000042, 1000043, 1000044, 1000045, 1000046, 1000047, 1000051, 1000054, 1000055, 1000056]
/-- math/bits.Len32 -/
def c48 : AFn := ⟨1, 19, [.t 2],
 (.seq
  (.reg [⟨some 2, none, .mov (.c (.int .i64 0))⟩])
  (.seq
   (.seq
    (.reg [⟨some 3, none, .mov (.t 0)⟩,
     ⟨some 4, none, .bin .geq (.t 3) (.c (.int .u32 65536))⟩])
    (.cond (.t 4)
     (.seq
      (.reg [⟨some 5, none, .mov (.t 0)⟩,
       ⟨some 6, none, .bin .shr (.t 5) (.c (.int .u64 16))⟩,
       ⟨some 0, none, .mov (.t 6)⟩])
      (.reg [⟨some 2, none, .mov (.c (.int .i64 16))⟩]))
     .skip))
   (.seq
    (.seq
     (.reg [⟨some 7, none, .mov (.t 0)⟩,
      ⟨some 8, none, .bin .geq (.t 7) (.c (.int .u32 256))⟩])
     (.cond (.t 8)
      (.seq
       (.reg [⟨some 9, none, .mov (.t 0)⟩,
        ⟨some 10, none, .bin .shr (.t 9) (.c (.int .u64 8))⟩,
        ⟨some 0, none, .mov (.t 10)⟩])
       (.reg [⟨some 11, none, .mov (.t 2)⟩,
        ⟨some 12, none, .bin .add (.t 11) (.c (.int .i64 8))⟩,
        ⟨some 2, none, .mov (.t 12)⟩]))
      .skip))
    (.seq
     (.reg [⟨some 13, none, .mov (.t 2)⟩,
      ⟨some 14, none, .mov (.t 0)⟩,
      ⟨some 15, none, .conv (.int .u8) (.t 14)⟩,
      ⟨some 16, none, .idxS (.c (.str [0, 1, 2, 2, 3, 3, 3, 3, 4, 4, 4, 4, 4, 4, 4, 4, 5, 5, 5, 5, 5, 5, 5, 5, 5, 5, 5, 5, 5, 5, 5, 5, 6, 6, 6, 6, 6, 6, 6, 6, 6, 6, 6, 6, 6, 6, 6, 6, 6, 6, 6, 6, 6, 6, 6, 6, 6, 6, 6, 6, 6, 6, 6, 6, 7, 7, 7, 7, 7, 7, 7, 7, 7, 7, 7, 7, 7, 7, 7, 7, 7, 7, 7, 7, 7, 7, 7, 7, 7, 7, 7, 7, 7, 7, 7, 7, 7, 7, 7, 7, 7, 7, 7, 7, 7, 7, 7, 7, 7, 7, 7, 7, 7, 7, 7, 7, 7, 7, 7, 7, 7, 7, 7, 7, 7, 7, 7, 7, 8, 8, 8, 8, 8, 8, 8, 8, 8, 8, 8, 8, 8, 8, 8, 8, 8, 8, 8, 8, 8, 8, 8, 8, 8, 8, 8, 8, 8, 8, 8, 8, 8, 8, 8, 8, 8, 8, 8, 8, 8, 8, 8, 8, 8, 8, 8, 8, 8, 8, 8, 8, 8, 8, 8, 8, 8, 8, 8, 8, 8, 8, 8, 8, 8, 8, 8, 8, 8, 8, 8, 8, 8, 8, 8, 8, 8, 8, 8, 8, 8, 8, 8, 8, 8, 8, 8, 8, 8, 8, 8, 8, 8, 8, 8, 8, 8, 8, 8, 8, 8, 8, 8, 8, 8, 8, 8, 8, 8, 8, 8, 8, 8, 8, 8, 8, 8, 8, 8, 8, 8, 8, 8, 8, 8, 8, 8, 8])) (.t 15)⟩,
      ⟨some 17, none, .conv (.int .i64) (.t 16)⟩,
      ⟨some 18, none, .bin .add (.t 13) (.t 17)⟩,
      ⟨some 2, none, .mov (.t 18)⟩])
     .ret)))), none⟩
def k48 : List (List Nat) := []
def o48 : List Nat := [1000028, 1000034, 1000040, 1000041, 1000042, 1000043, 1000044, 1000045, 1000046, 1000047, 1000051, 1000054, 1000055, 1000056]
/-- math/bits.Len64 -/
def c49 : AFn := ⟨1, 25, [.t 2],
 (.seq
  (.reg [⟨some 2, none, .mov (.c (.int .i64 0))⟩])
  (.seq
   (.seq
    (.reg [⟨some 3, none, .mov (.t 0)⟩,
     ⟨some 4, none, .bin .geq (.t 3) (.c (.int .u64 4294967296))⟩])
    (.cond (.t 4)
     (.seq
      (.reg [⟨some 5, none, .mov (.t 0)⟩,
       ⟨some 6, none, .bin .shr (.t 5) (.c (.int .u64 32))⟩,
       ⟨some 0, none, .mov (.t 6)⟩])
      (.reg [⟨some 2, none, .mov (.c (.int .i64 32))⟩]))
     .skip))
   (.seq
    (.seq
     (.reg [⟨some 7, none, .mov (.t 0)⟩,
      ⟨some 8, none, .bin .geq (.t 7) (.c (.int .u64 65536))⟩])
     (.cond (.t 8)
      (.seq
       (.reg [⟨some 9, none, .mov (.t 0)⟩,
        ⟨some 10, none, .bin .shr (.t 9) (.c (.int .u64 16))⟩,
        ⟨some 0, none, .mov (.t 10)⟩])
       (.reg [⟨some 11, none, .mov (.t 2)⟩,
        ⟨some 12, none, .bin .add (.t 11) (.c (.int .i64 16))⟩,
        ⟨some 2, none, .mov (.t 12)⟩]))
      .skip))
    (.seq
     (.seq
      (.reg [⟨some 13, none, .mov (.t 0)⟩,
       ⟨some 14, none, .bin .geq (.t 13) (.c (.int .u64 256))⟩])
      (.cond (.t 14)
       (.seq
        (.reg [⟨some 15, none, .mov (.t 0)⟩,
         ⟨some 16, none, .bin .shr (.t 15) (.c (.int .u64 8))⟩,
         ⟨some 0, none, .mov (.t 16)⟩])
        (.reg [⟨some 17, none, .mov (.t 2)⟩,
         ⟨some 18, none, .bin .add (.t 17) (.c (.int .i64 8))⟩,
         ⟨some 2, none, .mov (.t 18)⟩]))
       .skip))
     (.seq
      (.reg [⟨some 19, none, .mov (.t 2)⟩,
       ⟨some 20, none, .mov (.t 0)⟩,
       ⟨some 21, none, .conv (.int .u8) (.t 20)⟩,
       ⟨some 22, none, .idxS (.c (.str [0, 1, 2, 2, 3, 3, 3, 3, 4, 4, 4, 4, 4, 4, 4, 4, 5, 5, 5, 5, 5, 5, 5, 5, 5, 5, 5, 5, 5, 5, 5, 5, 6, 6, 6, 6, 6, 6, 6, 6, 6, 6, 6, 6, 6, 6, 6, 6, 6, 6, 6, 6, 6, 6, 6, 6, 6, 6, 6, 6, 6, 6, 6, 6, 7, 7, 7, 7, 7, 7, 7, 7, 7, 7, 7, 7, 7, 7, 7, 7, 7, 7, 7, 7, 7, 7, 7, 7, 7, 7, 7, 7, 7, 7, 7, 7, 7, 7, 7, 7, 7, 7, 7, 7, 7, 7, 7, 7, 7, 7, 7, 7, 7, 7, 7, 7, 7, 7, 7, 7, 7, 7, 7, 7, 7, 7, 7, 7, 8, 8, 8, 8, 8, 8, 8, 8, 8, 8, 8, 8, 8, 8, 8, 8, 8, 8, 8, 8, 8, 8, 8, 8, 8, 8, 8, 8, 8, 8, 8, 8, 8, 8, 8, 8, 8, 8, 8, 8, 8, 8, 8, 8, 8, 8, 8, 8, 8, 8, 8, 8, 8, 8, 8, 8, 8, 8, 8, 8, 8, 8, 8, 8, 8, 8, 8, 8, 8, 8, 8, 8, 8, 8, 8, 8, 8, 8, 8, 8, 8, 8, 8, 8, 8, 8, 8, 8, 8, 8, 8, 8, 8, 8, 8, 8, 8, 8, 8, 8, 8, 8, 8, 8, 8, 8, 8, 8, 8, 8, 8, 8, 8, 8, 8, 8, 8, 8, 8, 8, 8, 8, 8, 8, 8, 8, 8, 8])) (.t 21)⟩,
       ⟨some 23, none, .conv (.int .i64) (.t 22)⟩,
       ⟨some 24, none, .bin .add (.t 19) (.t 23)⟩,
       ⟨some 2, none, .mov (.t 24)⟩])
      .ret))))), none⟩
def k49 : List (List Nat) := []
def o49 : List Nat := [1000028, 1000034, 1000040, 1000041, 1000042, 1000043, 1000044, 1000045, 1000046, 1000047, 1000051, 1000054, 1000055, 1000056]
def c50b0 : AC := (.seq
         (.seq
          (.reg [⟨some 8, none, .mov (.t 7)⟩,
           ⟨some 9, none, .mov (.t 0)⟩,
           ⟨some 10, none, .len (.t 9)⟩,
           ⟨some 11, none, .bin .lss (.t 8) (.t 10)⟩])
          (.cond (.t 11)
           .skip
           (.exit 0)))
         (.seq
          (.block 1
           (.seq
            (.seq
             (.reg [⟨some 14, none, .mov (.t 6)⟩,
              ⟨some 15, none, .un .not (.t 14)⟩,
              ⟨some 16, none, .mov (.t 15)⟩,
              ⟨some 17, some (16, true), .mov (.t 0)⟩,
              ⟨some 18, some (16, true), .mov (.t 7)⟩,
              ⟨some 19, some (16, true), .iaddr (.slice 1) (.t 17) (.t 18)⟩,
              ⟨some 20, some (16, true), .load 1 false (.t 19)⟩,
              ⟨some 21, some (16, true), .mov (.t 1)⟩,
              ⟨some 22, some (16, true), .bin .geq (.t 20) (.t 21)⟩,
              ⟨some 23, none, .pick (.t 16) (.t 22) (.c (.bool false))⟩])
             (.cond (.t 23)
              (.seq
               (.reg [⟨some 24, none, .mov (.t 5)⟩,
                ⟨some 25, none, .mov (.t 1)⟩,
                ⟨some 26, none, .bslice false 1 [(.int .i64 0)] 1 [(0, (.t 25))]⟩,
                ⟨some 27, none, .append 1 8 (.t 24) (.t 26)⟩,
                ⟨some 5, none, .mov (.t 27)⟩])
               (.reg [⟨some 6, none, .mov (.c (.bool true))⟩]))
              .skip))
            (.seq
             (.reg [⟨some 28, none, .mov (.t 0)⟩,
              ⟨some 29, none, .mov (.t 7)⟩,
              ⟨some 30, none, .iaddr (.slice 1) (.t 28) (.t 29)⟩,
              ⟨some 31, none, .load 1 false (.t 30)⟩,
              ⟨some 32, none, .mov (.t 1)⟩,
              ⟨some 33, none, .bin .neq (.t 31) (.t 32)⟩])
             (.cond (.t 33)
              (.reg [⟨some 34, none, .mov (.t 5)⟩,
               ⟨some 35, none, .mov (.t 0)⟩,
               ⟨some 36, none, .mov (.t 7)⟩,
               ⟨some 37, none, .iaddr (.slice 1) (.t 35) (.t 36)⟩,
               ⟨some 38, none, .load 1 false (.t 37)⟩,
               ⟨some 39, none, .bslice false 1 [(.int .i64 0)] 1 [(0, (.t 38))]⟩,
               ⟨some 40, none, .append 1 8 (.t 34) (.t 39)⟩,
               ⟨some 5, none, .mov (.t 40)⟩])
              .skip))))
          (.reg [⟨some 12, none, .mov (.t 7)⟩,
           ⟨some 13, none, .bin .add (.t 12) (.c (.int .i64 1))⟩,
           ⟨some 7, none, .mov (.t 13)⟩])))
/-- tracebook/tracebookref04.put -/
def c50 : AFn := ⟨2, 48, [.t 4],
 (.seq
  (.reg [⟨some 4, none, .nilv 1⟩])
  (.seq
   (.reg [⟨some 5, none, .nilv 1⟩])
   (.seq
    (.reg [⟨some 6, none, .mov (.c (.bool false))⟩])
    (.seq
     (.seq
      (.reg [⟨some 7, none, .mov (.c (.int .i64 0))⟩])
      (.block 0
       (.loop [0, 1, 5, 6, 7]
        c50b0)))
     (.seq
      (.seq
       (.reg [⟨some 41, none, .mov (.t 6)⟩,
        ⟨some 42, none, .un .not (.t 41)⟩])
       (.cond (.t 42)
        (.reg [⟨some 43, none, .mov (.t 5)⟩,
         ⟨some 44, none, .mov (.t 1)⟩,
         ⟨some 45, none, .bslice false 1 [(.int .i64 0)] 1 [(0, (.t 44))]⟩,
         ⟨some 46, none, .append 1 8 (.t 43) (.t 45)⟩,
         ⟨some 5, none, .mov (.t 46)⟩])
        .skip))
      (.seq
       (.reg [⟨some 47, none, .mov (.t 5)⟩,
        ⟨some 4, none, .mov (.t 47)⟩])
       .ret)))))), none⟩
def k50 : List (List Nat) := [[0, 1, 5, 6, 7]]
def o50 : List Nat := [1000028, 1000034, 1000040, 1000041, 1000042, 1000043, 1000044, 1000045, 1000046, 1000047, 1000051, 1000054, 1000055, 1000056]
def tbl : List (Nat × AFn) := [(3, c3), (4, c4), (5, c5), (6, c6), (7, c7), (8, c8), (9, c9), (10, c10), (11, c11), (12, c12), (13, c13), (14, c14), (15, c15), (16, c16), (17, c17), (18, c18), (19, c19), (20, c20), (21, c21), (22, c22), (23, c23), (24, c24), (25, c25), (26, c26), (27, c27), (28, c28), (29, c29), (30, c30), (31, c31), (32, c32), (33, c33), (34, c34), (35, c35), (36, c36), (37, c37), (38, c38), (39, c39), (40, c40), (41, c41), (42, c42), (43, c43), (44, c44), (45, c45), (46, c46), (47, c47), (48, c48), (49, c49), (50, c50)]
theorem d3 : digFn Try.prog o3 k3 Try.f3 = some c3 := by kernel_rfl
theorem d4 : digFn Try.prog o4 k4 Try.f4 = some c4 := by kernel_rfl
theorem d5 : digFn Try.prog o5 k5 Try.f5 = some c5 := by kernel_rfl
theorem d6 : digFn Try.prog o6 k6 Try.f6 = some c6 := by kernel_rfl
theorem d7 : digFn Try.prog o7 k7 Try.f7 = some c7 := by kernel_rfl
theorem d8 : digFn Try.prog o8 k8 Try.f8 = some c8 := by kernel_rfl
theorem d9 : digFn Try.prog o9 k9 Try.f9 = some c9 := by kernel_rfl
theorem d10 : digFn Try.prog o10 k10 Try.f10 = some c10 := by kernel_rfl
theorem d11 : digFn Try.prog o11 k11 Try.f11 = some c11 := by kernel_rfl
theorem d12 : digFn Try.prog o12 k12 Try.f12 = some c12 := by kernel_rfl
theorem d13 : digFn Try.prog o13 k13 Try.f13 = some c13 := by kernel_rfl
theorem d14 : digFn Try.prog o14 k14 Try.f14 = some c14 := by kernel_rfl
theorem d15 : digFn Try.prog o15 k15 Try.f15 = some c15 := by kernel_rfl
theorem d16 : digFn Try.prog o16 k16 Try.f16 = some c16 := by kernel_rfl
theorem d17 : digFn Try.prog o17 k17 Try.f17 = some c17 := by kernel_rfl
theorem d18 : digFn Try.prog o18 k18 Try.f18 = some c18 := by kernel_rfl
theorem d19 : digFn Try.prog o19 k19 Try.f19 = some c19 := by kernel_rfl
theorem d20 : digFn Try.prog o20 k20 Try.f20 = some c20 := by kernel_rfl
theorem d21 : digFn Try.prog o21 k21 Try.f21 = some c21 := by kernel_rfl
theorem d22 : digFn Try.prog o22 k22 Try.f22 = some c22 := by kernel_rfl
theorem d23 : digFn Try.prog o23 k23 Try.f23 = some c23 := by kernel_rfl
theorem d24 : digFn Try.prog o24 k24 Try.f24 = some c24 := by kernel_rfl
theorem d25 : digFn Try.prog o25 k25 Try.f25 = some c25 := by kernel_rfl
theorem d26 : digFn Try.prog o26 k26 Try.f26 = some c26 := by kernel_rfl
theorem d27 : digFn Try.prog o27 k27 Try.f27 = some c27 := by kernel_rfl
theorem d29 : digFn Try.prog o29 k29 Try.f29 = some c29 := by kernel_rfl
theorem d30 : digFn Try.prog o30 k30 Try.f30 = some c30 := by kernel_rfl
theorem d31 : digFn Try.prog o31 k31 Try.f31 = some c31 := by kernel_rfl
theorem d32 : digFn Try.prog o32 k32 Try.f32 = some c32 := by kernel_rfl
theorem d33 : digFn Try.prog o33 k33 Try.f33 = some c33 := by kernel_rfl
theorem d34 : digFn Try.prog o34 k34 Try.f34 = some c34 := by kernel_rfl
theorem d35 : digFn Try.prog o35 k35 Try.f35 = some c35 := by kernel_rfl
theorem d36 : digFn Try.prog o36 k36 Try.f36 = some c36 := by kernel_rfl
theorem d37 : digFn Try.prog o37 k37 Try.f37 = some c37 := by kernel_rfl
theorem d38 : digFn Try.prog o38 k38 Try.f38 = some c38 := by kernel_rfl
theorem d39 : digFn Try.prog o39 k39 Try.f39 = some c39 := by kernel_rfl
theorem d40 : digFn Try.prog o40 k40 Try.f40 = some c40 := by kernel_rfl
theorem d41 : digFn Try.prog o41 k41 Try.f41 = some c41 := by kernel_rfl
theorem d42 : digFn Try.prog o42 k42 Try.f42 = some c42 := by kernel_rfl
theorem d43 : digFn Try.prog o43 k43 Try.f43 = some c43 := by kernel_rfl
theorem d44 : digFn Try.prog o44 k44 Try.f44 = some c44 := by kernel_rfl
theorem d45 : digFn Try.prog o45 k45 Try.f45 = some c45 := by kernel_rfl
theorem d46 : digFn Try.prog o46 k46 Try.f46 = some c46 := by kernel_rfl
theorem d47 : digFn Try.prog o47 k47 Try.f47 = some c47 := by kernel_rfl
theorem d48 : digFn Try.prog o48 k48 Try.f48 = some c48 := by kernel_rfl
theorem d49 : digFn Try.prog o49 k49 Try.f49 = some c49 := by kernel_rfl
theorem d50 : digFn Try.prog o50 k50 Try.f50 = some c50 := by kernel_rfl
def Dg (f : Nat) : Option AFn := lookP tbl f
theorem D3 : Dg 3 = some c3 := by kernel_rfl
theorem D4 : Dg 4 = some c4 := by kernel_rfl
theorem D5 : Dg 5 = some c5 := by kernel_rfl
theorem D6 : Dg 6 = some c6 := by kernel_rfl
theorem D7 : Dg 7 = some c7 := by kernel_rfl
theorem D8 : Dg 8 = some c8 := by kernel_rfl
theorem D9 : Dg 9 = some c9 := by kernel_rfl
theorem D10 : Dg 10 = some c10 := by kernel_rfl
theorem D11 : Dg 11 = some c11 := by kernel_rfl
theorem D12 : Dg 12 = some c12 := by kernel_rfl
theorem D13 : Dg 13 = some c13 := by kernel_rfl
theorem D14 : Dg 14 = some c14 := by kernel_rfl
theorem D15 : Dg 15 = some c15 := by kernel_rfl
theorem D16 : Dg 16 = some c16 := by kernel_rfl
theorem D17 : Dg 17 = some c17 := by kernel_rfl
theorem D18 : Dg 18 = some c18 := by kernel_rfl
theorem D19 : Dg 19 = some c19 := by kernel_rfl
theorem D20 : Dg 20 = some c20 := by kernel_rfl
theorem D21 : Dg 21 = some c21 := by kernel_rfl
theorem D22 : Dg 22 = some c22 := by kernel_rfl
theorem D23 : Dg 23 = some c23 := by kernel_rfl
theorem D24 : Dg 24 = some c24 := by kernel_rfl
theorem D25 : Dg 25 = some c25 := by kernel_rfl
theorem D26 : Dg 26 = some c26 := by kernel_rfl
theorem D27 : Dg 27 = some c27 := by kernel_rfl
theorem D28 : Dg 28 = some c28 := by kernel_rfl
theorem D29 : Dg 29 = some c29 := by kernel_rfl
theorem D30 : Dg 30 = some c30 := by kernel_rfl
theorem D31 : Dg 31 = some c31 := by kernel_rfl
theorem D32 : Dg 32 = some c32 := by kernel_rfl
theorem D33 : Dg 33 = some c33 := by kernel_rfl
theorem D34 : Dg 34 = some c34 := by kernel_rfl
theorem D35 : Dg 35 = some c35 := by kernel_rfl
theorem D36 : Dg 36 = some c36 := by kernel_rfl
theorem D37 : Dg 37 = some c37 := by kernel_rfl
theorem D38 : Dg 38 = some c38 := by kernel_rfl
theorem D39 : Dg 39 = some c39 := by kernel_rfl
theorem D40 : Dg 40 = some c40 := by kernel_rfl
theorem D41 : Dg 41 = some c41 := by kernel_rfl
theorem D42 : Dg 42 = some c42 := by kernel_rfl
theorem D43 : Dg 43 = some c43 := by kernel_rfl
theorem D44 : Dg 44 = some c44 := by kernel_rfl
theorem D45 : Dg 45 = some c45 := by kernel_rfl
theorem D46 : Dg 46 = some c46 := by kernel_rfl
theorem D47 : Dg 47 = some c47 := by kernel_rfl
theorem D48 : Dg 48 = some c48 := by kernel_rfl
theorem D49 : Dg 49 = some c49 := by kernel_rfl
theorem D50 : Dg 50 = some c50 := by kernel_rfl
theorem dokL [Bs] : ∀ x ∈ tbl, FnOk Try.prog x.1 x.2 :=
  all_cons (fnok Try.func3 d3) (
  all_cons (fnok Try.func4 d4) (
  all_cons (fnok Try.func5 d5) (
  all_cons (fnok Try.func6 d6) (
  all_cons (fnok Try.func7 d7) (
  all_cons (fnok Try.func8 d8) (
  all_cons (fnok Try.func9 d9) (
  all_cons (fnok Try.func10 d10) (
  all_cons (fnok Try.func11 d11) (
  all_cons (fnok Try.func12 d12) (
  all_cons (fnok Try.func13 d13) (
  all_cons (fnok Try.func14 d14) (
  all_cons (fnok Try.func15 d15) (
  all_cons (fnok Try.func16 d16) (
  all_cons (fnok Try.func17 d17) (
  all_cons (fnok Try.func18 d18) (
  all_cons (fnok Try.func19 d19) (
  all_cons (fnok Try.func20 d20) (
  all_cons (fnok Try.func21 d21) (
  all_cons (fnok Try.func22 d22) (
  all_cons (fnok Try.func23 d23) (
  all_cons (fnok Try.func24 d24) (
  all_cons (fnok Try.func25 d25) (
  all_cons (fnok Try.func26 d26) (
  all_cons (fnok Try.func27 d27) (
  all_cons (show FnOk Try.prog 28 c28 from ext28) (
  all_cons (fnok Try.func29 d29) (
  all_cons (fnok Try.func30 d30) (
  all_cons (fnok Try.func31 d31) (
  all_cons (fnok Try.func32 d32) (
  all_cons (fnok Try.func33 d33) (
  all_cons (fnok Try.func34 d34) (
  all_cons (fnok Try.func35 d35) (
  all_cons (fnok Try.func36 d36) (
  all_cons (fnok Try.func37 d37) (
  all_cons (fnok Try.func38 d38) (
  all_cons (fnok Try.func39 d39) (
  all_cons (fnok Try.func40 d40) (
  all_cons (fnok Try.func41 d41) (
  all_cons (fnok Try.func42 d42) (
  all_cons (fnok Try.func43 d43) (
  all_cons (fnok Try.func44 d44) (
  all_cons (fnok Try.func45 d45) (
  all_cons (fnok Try.func46 d46) (
  all_cons (fnok Try.func47 d47) (
  all_cons (fnok Try.func48 d48) (
  all_cons (fnok Try.func49 d49) (
  all_cons (fnok Try.func50 d50) (
  all_nil))))))))))))))))))))))))))))))))))))))))))))))))
theorem dok (bs : Bs) : DOk Try.prog Dg := fun f fc h => dokL (f, fc) (lookP_mem h)

end Go.Proofs.Ytildbjepbnjbfaa
