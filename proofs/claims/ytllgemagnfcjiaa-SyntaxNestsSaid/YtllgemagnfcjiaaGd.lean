/- The evaluator: a pure reading of the code, and that it is right; several texts in one. -/
import Derived.Test.YtllgemagnfcjiaaGc
import Derived.Test.YtllgemagnfcjiaaProg
/- The code of the functions, as it is read, the first part. -/
namespace Go.Proofs.Ytllgemagnfcjiaa
open Go
/-- tracebook/tracebooklaw36.SyntaxExprs -/
def c3 : AFn := ⟨1, 23, [.t 2],
 (.seq
  (.reg [⟨some 1, none, .box (.t 0)⟩,
   ⟨some 2, none, .mov (.c (.bool false))⟩])
  (.seq
   (.seq
    (.reg [⟨some 3, none, .call false 9 []⟩,
     ⟨some 4, none, .un .not (.t 3)⟩,
     ⟨some 5, none, .mov (.t 4)⟩,
     ⟨some 6, some (5, false), .load 6 true (.t 1)⟩,
     ⟨some 7, some (5, false), .call false 10 [(.t 6)]⟩,
     ⟨some 8, some (5, false), .un .not (.t 7)⟩,
     ⟨some 9, none, .pick (.t 5) (.c (.bool true)) (.t 8)⟩])
    (.cond (.t 9)
     (.seq
      (.reg [⟨some 10, none, .call false 9 []⟩,
       ⟨some 2, none, .mov (.t 10)⟩])
      .ret)
     .skip))
   (.seq
    (.reg [⟨some 11, none, .load 6 true (.t 1)⟩,
     ⟨some 12, none, .call false 11 [(.t 11)]⟩,
     ⟨some 13, none, .load 6 true (.t 1)⟩,
     ⟨some 14, none, .call false 12 [(.t 13)]⟩,
     ⟨some 15, none, .bin .eql (.t 12) (.t 14)⟩,
     ⟨some 16, none, .mov (.t 15)⟩,
     ⟨some 17, some (16, true), .load 6 true (.t 1)⟩,
     ⟨some 18, some (16, true), .call false 14 [(.t 17)]⟩,
     ⟨some 19, some (16, true), .load 6 true (.t 1)⟩,
     ⟨some 20, some (16, true), .call false 15 [(.t 19)]⟩,
     ⟨some 21, some (16, true), .call false 13 [(.t 18), (.t 20)]⟩,
     ⟨some 22, none, .pick (.t 16) (.t 21) (.c (.bool false))⟩,
     ⟨some 2, none, .mov (.t 22)⟩])
    .ret))), none⟩
def k3 : List (List Nat) := []
def o3 : List Nat := [1000032, 1000033, 1000034, 1000057, 1000061, 1000062, 1000079, 1000080, 1000081, 1000082, 1000083, 1000084, 1000086, 1000087, 1000094, 1000097, 1000098, 1000103, 3000000]
/-- tracebook/tracebooklaw36.SyntaxSteps -/
def c4 : AFn := ⟨1, 16, [.t 2],
 (.seq
  (.reg [⟨some 1, none, .box (.t 0)⟩,
   ⟨some 2, none, .mov (.c (.bool false))⟩])
  (.seq
   (.seq
    (.reg [⟨some 3, none, .call false 9 []⟩,
     ⟨some 4, none, .un .not (.t 3)⟩,
     ⟨some 5, none, .mov (.t 4)⟩,
     ⟨some 6, some (5, false), .load 13 true (.t 1)⟩,
     ⟨some 7, some (5, false), .call false 16 [(.t 6)]⟩,
     ⟨some 8, some (5, false), .un .not (.t 7)⟩,
     ⟨some 9, none, .pick (.t 5) (.c (.bool true)) (.t 8)⟩])
    (.cond (.t 9)
     (.seq
      (.reg [⟨some 10, none, .call false 9 []⟩,
       ⟨some 2, none, .mov (.t 10)⟩])
      .ret)
     .skip))
   (.seq
    (.reg [⟨some 11, none, .load 13 true (.t 1)⟩,
     ⟨some 12, none, .call false 17 [(.t 11)]⟩,
     ⟨some 13, none, .load 13 true (.t 1)⟩,
     ⟨some 14, none, .call false 18 [(.t 13)]⟩,
     ⟨some 15, none, .bin .eql (.t 12) (.t 14)⟩,
     ⟨some 2, none, .mov (.t 15)⟩])
    .ret))), none⟩
def k4 : List (List Nat) := []
def o4 : List Nat := [1000032, 1000033, 1000034, 1000057, 1000061, 1000062, 1000079, 1000080, 1000081, 1000082, 1000083, 1000084, 1000086, 1000087, 1000094, 1000097, 1000098, 1000103, 3000000]
def c5b0 : AC := (.seq
            (.seq
             (.reg [⟨some 31, none, .mov (.t 7)⟩,
              ⟨some 32, none, .faddr 1 (.t 2)⟩,
              ⟨some 33, none, .load 1 false (.t 32)⟩,
              ⟨some 34, none, .len (.t 33)⟩,
              ⟨some 35, none, .bin .lss (.t 31) (.t 34)⟩])
             (.cond (.t 35)
              .skip
              (.exit 0)))
            (.seq
             (.block 1
              (.seq
               (.reg [⟨some 38, none, .faddr 1 (.t 2)⟩,
                ⟨some 39, none, .load 1 false (.t 38)⟩,
                ⟨some 40, none, .mov (.t 7)⟩,
                ⟨some 41, none, .iaddr (.slice 13) (.t 39) (.t 40)⟩,
                ⟨some 42, none, .load 13 true (.t 41)⟩,
                ⟨some 43, none, .call false 17 [(.t 42)]⟩,
                ⟨some 44, none, .bin .neq (.t 43) (.c (.int .i64 0))⟩])
               (.cond (.t 44)
                (.seq
                 (.reg [⟨some 4, none, .mov (.c (.bool false))⟩])
                 .ret)
                .skip)))
             (.reg [⟨some 36, none, .mov (.t 7)⟩,
              ⟨some 37, none, .bin .add (.t 36) (.c (.int .i64 1))⟩,
              ⟨some 7, none, .mov (.t 37)⟩])))
def c5r0 : AC := (.seq
         (.reg [⟨some 45, none, .faddr 0 (.t 2)⟩,
          ⟨some 46, none, .load 1 false (.t 45)⟩,
          ⟨some 47, none, .faddr 1 (.t 2)⟩,
          ⟨some 48, none, .load 1 false (.t 47)⟩,
          ⟨some 49, none, .mov (.t 6)⟩,
          ⟨some 50, none, .slc (.slice 13) (.t 48) (some (.t 49)) none none⟩,
          ⟨some 51, none, .build [(.str []), .nilS] [(0, 1, (.t 46)), (1, 1, (.t 50))]⟩,
          ⟨some 52, none, .call false 20 [(.t 51)]⟩,
          ⟨some 53, none, .bin .eql (.t 52) (.c (.int .i64 0))⟩,
          ⟨some 54, none, .mov (.t 53)⟩,
          ⟨some 55, some (54, true), .faddr 0 (.t 2)⟩,
          ⟨some 56, some (54, true), .load 1 false (.t 55)⟩,
          ⟨some 57, some (54, true), .faddr 1 (.t 2)⟩,
          ⟨some 58, some (54, true), .load 1 false (.t 57)⟩,
          ⟨some 59, some (54, true), .mov (.t 6)⟩,
          ⟨some 60, some (54, true), .slc (.slice 13) (.t 58) none (some (.t 59)) none⟩,
          ⟨some 61, some (54, true), .build [(.str []), .nilS] [(0, 1, (.t 56)), (1, 1, (.t 60))]⟩,
          ⟨some 62, some (54, true), .call false 20 [(.t 61)]⟩,
          ⟨some 63, some (54, true), .bin .eql (.t 62) (.c (.int .i64 0))⟩,
          ⟨some 64, none, .pick (.t 54) (.t 63) (.c (.bool false))⟩,
          ⟨some 4, none, .mov (.t 64)⟩])
         .ret)
/-- tracebook/tracebooklaw36.SyntaxQueries -/
def c5 : AFn := ⟨2, 65, [.t 4],
 (.seq
  (.reg [⟨some 2, none, .box (.t 0)⟩,
   ⟨some 4, none, .mov (.c (.bool false))⟩])
  (.seq
   (.seq
    (.reg [⟨some 8, none, .call false 9 []⟩,
     ⟨some 9, none, .un .not (.t 8)⟩,
     ⟨some 10, none, .mov (.t 9)⟩,
     ⟨some 11, some (10, false), .load 2 true (.t 2)⟩,
     ⟨some 12, some (10, false), .call false 19 [(.t 11)]⟩,
     ⟨some 13, some (10, false), .un .not (.t 12)⟩,
     ⟨some 14, none, .pick (.t 10) (.c (.bool true)) (.t 13)⟩])
    (.cond (.t 14)
     (.seq
      (.reg [⟨some 15, none, .call false 9 []⟩,
       ⟨some 4, none, .mov (.t 15)⟩])
      .ret)
     .skip))
   (.seq
    (.reg [⟨some 16, none, .load 2 true (.t 2)⟩,
     ⟨some 17, none, .call false 20 [(.t 16)]⟩,
     ⟨some 5, none, .mov (.t 17)⟩])
    (.seq
     (.seq
      (.reg [⟨some 18, none, .mov (.t 5)⟩,
       ⟨some 19, none, .load 2 true (.t 2)⟩,
       ⟨some 20, none, .call false 21 [(.t 19)]⟩,
       ⟨some 21, none, .bin .neq (.t 18) (.t 20)⟩])
      (.cond (.t 21)
       (.seq
        (.reg [⟨some 4, none, .mov (.c (.bool false))⟩])
        .ret)
       .skip))
     (.seq
      (.seq
       (.reg [⟨some 22, none, .mov (.t 5)⟩,
        ⟨some 23, none, .bin .neq (.t 22) (.c (.int .i64 0))⟩])
       (.cond (.t 23)
        (.seq
         (.reg [⟨some 4, none, .mov (.c (.bool true))⟩])
         .ret)
        .skip))
      (.seq
       (.reg [⟨some 24, none, .mov (.t 1)⟩,
        ⟨some 25, none, .conv (.int .i64) (.t 24)⟩,
        ⟨some 26, none, .faddr 1 (.t 2)⟩,
        ⟨some 27, none, .load 1 false (.t 26)⟩,
        ⟨some 28, none, .len (.t 27)⟩,
        ⟨some 29, none, .bin .add (.t 28) (.c (.int .i64 1))⟩,
        ⟨some 30, none, .bin .rem (.t 25) (.t 29)⟩,
        ⟨some 6, none, .mov (.t 30)⟩])
       (.seq
        (.seq
         (.reg [⟨some 7, none, .mov (.c (.int .i64 0))⟩])
         (.block 0
          (.loop [2, 6, 7]
           c5b0)))
        c5r0))))))), none⟩
def k5 : List (List Nat) := [[2, 6, 7]]
def o5 : List Nat := [1000032, 1000033, 1000034, 1000057, 1000061, 1000062, 1000079, 1000080, 1000081, 1000082, 1000083, 1000084, 1000086, 1000087, 1000094, 1000097, 1000098, 1000103, 3000000]
def c6b0 : AC := (.seq
                     (.seq
                      (.reg [⟨some 94, none, .mov (.t 15)⟩,
                       ⟨some 95, none, .mov (.t 10)⟩,
                       ⟨some 96, none, .len (.t 95)⟩,
                       ⟨some 97, none, .bin .lss (.t 94) (.t 96)⟩])
                      (.cond (.t 97)
                       .skip
                       (.exit 6)))
                     (.seq
                      (.block 7
                       (.reg [⟨some 100, none, .mov (.t 13)⟩,
                        ⟨some 101, none, .mov (.t 100)⟩,
                        ⟨some 102, some (101, false), .mov (.t 10)⟩,
                        ⟨some 103, some (101, false), .mov (.t 15)⟩,
                        ⟨some 104, some (101, false), .iaddr (.slice 1) (.t 102) (.t 103)⟩,
                        ⟨some 105, some (101, false), .load 1 false (.t 104)⟩,
                        ⟨some 106, some (101, false), .mov (.t 11)⟩,
                        ⟨some 107, some (101, false), .mov (.t 12)⟩,
                        ⟨some 108, some (101, false), .iaddr (.slice 1) (.t 106) (.t 107)⟩,
                        ⟨some 109, some (101, false), .load 1 false (.t 108)⟩,
                        ⟨some 110, some (101, false), .bin .eql (.t 105) (.t 109)⟩,
                        ⟨some 111, none, .pick (.t 101) (.c (.bool true)) (.t 110)⟩,
                        ⟨some 13, none, .mov (.t 111)⟩]))
                      (.reg [⟨some 98, none, .mov (.t 15)⟩,
                       ⟨some 99, none, .bin .add (.t 98) (.c (.int .i64 1))⟩,
                       ⟨some 15, none, .mov (.t 99)⟩])))
def c6b1 : AC := (.seq
                    (.seq
                     (.reg [⟨some 76, none, .mov (.t 14)⟩,
                      ⟨some 77, none, .mov (.t 9)⟩,
                      ⟨some 78, none, .len (.t 77)⟩,
                      ⟨some 79, none, .bin .lss (.t 76) (.t 78)⟩])
                     (.cond (.t 79)
                      .skip
                      (.exit 4)))
                    (.seq
                     (.block 5
                      (.reg [⟨some 82, none, .mov (.t 13)⟩,
                       ⟨some 83, none, .mov (.t 82)⟩,
                       ⟨some 84, some (83, false), .mov (.t 9)⟩,
                       ⟨some 85, some (83, false), .mov (.t 14)⟩,
                       ⟨some 86, some (83, false), .iaddr (.slice 1) (.t 84) (.t 85)⟩,
                       ⟨some 87, some (83, false), .load 1 false (.t 86)⟩,
                       ⟨some 88, some (83, false), .mov (.t 11)⟩,
                       ⟨some 89, some (83, false), .mov (.t 12)⟩,
                       ⟨some 90, some (83, false), .iaddr (.slice 1) (.t 88) (.t 89)⟩,
                       ⟨some 91, some (83, false), .load 1 false (.t 90)⟩,
                       ⟨some 92, some (83, false), .bin .eql (.t 87) (.t 91)⟩,
                       ⟨some 93, none, .pick (.t 83) (.c (.bool true)) (.t 92)⟩,
                       ⟨some 13, none, .mov (.t 93)⟩]))
                     (.reg [⟨some 80, none, .mov (.t 14)⟩,
                      ⟨some 81, none, .bin .add (.t 80) (.c (.int .i64 1))⟩,
                      ⟨some 14, none, .mov (.t 81)⟩])))
def c6r0 : AC := (.seq
                 (.seq
                  (.reg [⟨some 15, none, .mov (.c (.int .i64 0))⟩])
                  (.block 6
                   (.loop [9, 10, 11, 12, 13, 15]
                    c6b0)))
                 (.seq
                  (.reg [⟨some 112, none, .mov (.t 13)⟩,
                   ⟨some 113, none, .un .not (.t 112)⟩,
                   ⟨some 114, none, .mov (.t 113)⟩,
                   ⟨some 115, some (114, false), .mov (.t 12)⟩,
                   ⟨some 116, some (114, false), .bin .gtr (.t 115) (.c (.int .i64 0))⟩,
                   ⟨some 117, some (114, false), .mov (.t 116)⟩,
                   ⟨some 118, some (117, true), .mov (.t 11)⟩,
                   ⟨some 119, some (117, true), .mov (.t 12)⟩,
                   ⟨some 120, some (117, true), .bin .sub (.t 119) (.c (.int .i64 1))⟩,
                   ⟨some 121, some (117, true), .iaddr (.slice 1) (.t 118) (.t 120)⟩,
                   ⟨some 122, some (117, true), .load 1 false (.t 121)⟩,
                   ⟨some 123, some (117, true), .mov (.t 11)⟩,
                   ⟨some 124, some (117, true), .mov (.t 12)⟩,
                   ⟨some 125, some (117, true), .iaddr (.slice 1) (.t 123) (.t 124)⟩,
                   ⟨some 126, some (117, true), .load 1 false (.t 125)⟩,
                   ⟨some 127, some (117, true), .bin .geq (.t 122) (.t 126)⟩,
                   ⟨some 128, some (114, false), .pick (.t 117) (.t 127) (.c (.bool false))⟩,
                   ⟨some 129, none, .pick (.t 114) (.c (.bool true)) (.t 128)⟩])
                  (.cond (.t 129)
                   (.seq
                    (.reg [⟨some 6, none, .mov (.c (.bool false))⟩])
                    .ret)
                   .skip)))
def c6b2 : AC := (.seq
            (.seq
             (.reg [⟨some 70, none, .mov (.t 12)⟩,
              ⟨some 71, none, .mov (.t 11)⟩,
              ⟨some 72, none, .len (.t 71)⟩,
              ⟨some 73, none, .bin .lss (.t 70) (.t 72)⟩])
             (.cond (.t 73)
              .skip
              (.exit 2)))
            (.seq
             (.block 3
              (.seq
               (.reg [⟨some 13, none, .mov (.c (.bool false))⟩])
               (.seq
                (.seq
                 (.reg [⟨some 14, none, .mov (.c (.int .i64 0))⟩])
                 (.block 4
                  (.loop [9, 10, 11, 12, 13, 14]
                   c6b1)))
                c6r0)))
             (.reg [⟨some 74, none, .mov (.t 12)⟩,
              ⟨some 75, none, .bin .add (.t 74) (.c (.int .i64 1))⟩,
              ⟨some 12, none, .mov (.t 75)⟩])))
def c6b3 : AC := (.seq
        (.seq
         (.reg [⟨some 39, none, .mov (.t 7)⟩,
          ⟨some 40, none, .faddr 5 (.t 3)⟩,
          ⟨some 41, none, .load 1 false (.t 40)⟩,
          ⟨some 42, none, .len (.t 41)⟩,
          ⟨some 43, none, .bin .lss (.t 39) (.t 42)⟩])
         (.cond (.t 43)
          .skip
          (.exit 0)))
        (.seq
         (.block 1
          (.seq
           (.reg [⟨some 46, none, .faddr 5 (.t 3)⟩,
            ⟨some 47, none, .load 1 false (.t 46)⟩,
            ⟨some 48, none, .mov (.t 7)⟩,
            ⟨some 49, none, .iaddr (.slice 6) (.t 47) (.t 48)⟩,
            ⟨some 50, none, .load 6 true (.t 49)⟩,
            ⟨some 51, none, .call false 11 [(.t 50)]⟩,
            ⟨some 52, none, .bin .neq (.t 51) (.c (.int .i64 0))⟩])
           (.cond (.t 52)
            (.seq
             (.reg [⟨some 6, none, .mov (.c (.bool false))⟩])
             .ret)
            .skip)))
         (.reg [⟨some 44, none, .mov (.t 7)⟩,
          ⟨some 45, none, .bin .add (.t 44) (.c (.int .i64 1))⟩,
          ⟨some 7, none, .mov (.t 45)⟩])))
def c6r1 : AC := (.seq
     (.reg [⟨some 53, none, .mov (.t 2)⟩,
      ⟨some 54, none, .bin .rem (.t 53) (.c (.int .u8 11))⟩,
      ⟨some 55, none, .conv (.int .i64) (.t 54)⟩,
      ⟨some 56, none, .bin .add (.c (.int .i64 5)) (.t 55)⟩,
      ⟨some 57, none, .load 6 true (.t 3)⟩,
      ⟨some 58, none, .load 6 true (.t 4)⟩,
      ⟨some 59, none, .bslice false 6 [(.int .i64 0), (.str []), (.int .i64 0), (.int .i64 0), (.str []), .nilS] 2 [(0, (.t 57)), (1, (.t 58))]⟩,
      ⟨some 60, none, .build [(.int .i64 0), (.str []), (.int .i64 0), (.int .i64 0), (.str []), .nilS] [(0, 1, (.t 56)), (5, 1, (.t 59))]⟩,
      ⟨some 8, none, .alloc [(.int .i64 0), (.str []), (.int .i64 0), (.int .i64 0), (.str []), .nilS]⟩,
      ⟨none, none, .store 6 (.t 8) (.t 60)⟩])
     (.seq
      (.seq
       (.reg [⟨some 61, none, .load 6 true (.t 8)⟩,
        ⟨some 62, none, .call false 11 [(.t 61)]⟩,
        ⟨some 63, none, .bin .neq (.t 62) (.c (.int .i64 0))⟩])
       (.cond (.t 63)
        (.seq
         (.reg [⟨some 6, none, .mov (.c (.bool false))⟩])
         .ret)
        .skip))
      (.seq
       (.reg [⟨some 64, none, .load 6 true (.t 3)⟩,
        ⟨some 65, none, .call false 14 [(.t 64)]⟩,
        ⟨some 66, none, .load 6 true (.t 4)⟩,
        ⟨some 67, none, .call false 14 [(.t 66)]⟩,
        ⟨some 68, none, .load 6 true (.t 8)⟩,
        ⟨some 69, none, .call false 14 [(.t 68)]⟩,
        ⟨some 9, none, .mov (.t 65)⟩,
        ⟨some 10, none, .mov (.t 67)⟩,
        ⟨some 11, none, .mov (.t 69)⟩])
       (.seq
        (.seq
         (.reg [⟨some 12, none, .mov (.c (.int .i64 0))⟩])
         (.block 2
          (.loop [9, 10, 11, 12]
           c6b2)))
        (.seq
         (.reg [⟨some 130, none, .mov (.t 11)⟩,
          ⟨some 131, none, .len (.t 130)⟩,
          ⟨some 132, none, .mov (.t 9)⟩,
          ⟨some 133, none, .len (.t 132)⟩,
          ⟨some 134, none, .mov (.t 10)⟩,
          ⟨some 135, none, .len (.t 134)⟩,
          ⟨some 136, none, .max [(.t 133), (.t 135)]⟩,
          ⟨some 137, none, .bin .geq (.t 131) (.t 136)⟩,
          ⟨some 138, none, .mov (.t 137)⟩,
          ⟨some 139, some (138, true), .mov (.t 11)⟩,
          ⟨some 140, some (138, true), .len (.t 139)⟩,
          ⟨some 141, some (138, true), .mov (.t 9)⟩,
          ⟨some 142, some (138, true), .len (.t 141)⟩,
          ⟨some 143, some (138, true), .mov (.t 10)⟩,
          ⟨some 144, some (138, true), .len (.t 143)⟩,
          ⟨some 145, some (138, true), .bin .add (.t 142) (.t 144)⟩,
          ⟨some 146, some (138, true), .bin .leq (.t 140) (.t 145)⟩,
          ⟨some 147, none, .pick (.t 138) (.t 146) (.c (.bool false))⟩,
          ⟨some 6, none, .mov (.t 147)⟩])
         .ret)))))
/-- tracebook/tracebooklaw36.SyntaxCombines -/
def c6 : AFn := ⟨3, 148, [.t 6],
 (.seq
  (.reg [⟨some 3, none, .box (.t 0)⟩,
   ⟨some 4, none, .box (.t 1)⟩,
   ⟨some 6, none, .mov (.c (.bool false))⟩])
  (.seq
   (.seq
    (.reg [⟨some 16, none, .call false 9 []⟩,
     ⟨some 17, none, .un .not (.t 16)⟩,
     ⟨some 18, none, .mov (.t 17)⟩,
     ⟨some 19, some (18, false), .load 6 true (.t 3)⟩,
     ⟨some 20, some (18, false), .call false 22 [(.t 19), (.c (.int .i64 15)), (.c (.int .i64 99))]⟩,
     ⟨some 21, some (18, false), .bin .lss (.t 20) (.c (.int .i64 0))⟩,
     ⟨some 22, none, .pick (.t 18) (.c (.bool true)) (.t 21)⟩,
     ⟨some 23, none, .mov (.t 22)⟩,
     ⟨some 24, some (23, false), .load 6 true (.t 4)⟩,
     ⟨some 25, some (23, false), .call false 22 [(.t 24), (.c (.int .i64 15)), (.c (.int .i64 99))]⟩,
     ⟨some 26, some (23, false), .bin .lss (.t 25) (.c (.int .i64 0))⟩,
     ⟨some 27, none, .pick (.t 23) (.c (.bool true)) (.t 26)⟩,
     ⟨some 28, none, .mov (.t 27)⟩,
     ⟨some 29, some (28, false), .load 6 true (.t 3)⟩,
     ⟨some 30, some (28, false), .call false 11 [(.t 29)]⟩,
     ⟨some 31, some (28, false), .bin .neq (.t 30) (.c (.int .i64 0))⟩,
     ⟨some 32, none, .pick (.t 28) (.c (.bool true)) (.t 31)⟩,
     ⟨some 33, none, .mov (.t 32)⟩,
     ⟨some 34, some (33, false), .load 6 true (.t 4)⟩,
     ⟨some 35, some (33, false), .call false 11 [(.t 34)]⟩,
     ⟨some 36, some (33, false), .bin .neq (.t 35) (.c (.int .i64 0))⟩,
     ⟨some 37, none, .pick (.t 33) (.c (.bool true)) (.t 36)⟩])
    (.cond (.t 37)
     (.seq
      (.reg [⟨some 38, none, .call false 9 []⟩,
       ⟨some 6, none, .mov (.t 38)⟩])
      .ret)
     .skip))
   (.seq
    (.seq
     (.reg [⟨some 7, none, .mov (.c (.int .i64 0))⟩])
     (.block 0
      (.loop [2, 3, 4, 7]
       c6b3)))
    c6r1))), none⟩
def k6 : List (List Nat) := [[2, 3, 4, 7], [9, 10, 11, 12], [9, 10, 11, 12, 13, 14], [9, 10, 11, 12, 13, 15]]
def o6 : List Nat := [1000032, 1000033, 1000034, 1000057, 1000061, 1000062, 1000079, 1000080, 1000081, 1000082, 1000083, 1000084, 1000086, 1000087, 1000094, 1000097, 1000098, 1000103, 3000000]
/-- tracebook/tracebooklaw36.SyntaxSame -/
def c7 : AFn := ⟨2, 50, [.t 4],
 (.seq
  (.reg [⟨some 2, none, .box (.t 0)⟩,
   ⟨some 3, none, .box (.t 1)⟩,
   ⟨some 4, none, .mov (.c (.bool false))⟩])
  (.seq
   (.seq
    (.reg [⟨some 6, none, .call false 9 []⟩,
     ⟨some 7, none, .un .not (.t 6)⟩,
     ⟨some 8, none, .mov (.t 7)⟩,
     ⟨some 9, some (8, false), .load 2 true (.t 2)⟩,
     ⟨some 10, some (8, false), .call false 19 [(.t 9)]⟩,
     ⟨some 11, some (8, false), .un .not (.t 10)⟩,
     ⟨some 12, none, .pick (.t 8) (.c (.bool true)) (.t 11)⟩,
     ⟨some 13, none, .mov (.t 12)⟩,
     ⟨some 14, some (13, false), .load 2 true (.t 3)⟩,
     ⟨some 15, some (13, false), .call false 19 [(.t 14)]⟩,
     ⟨some 16, some (13, false), .un .not (.t 15)⟩,
     ⟨some 17, none, .pick (.t 13) (.c (.bool true)) (.t 16)⟩])
    (.cond (.t 17)
     (.seq
      (.reg [⟨some 18, none, .call false 9 []⟩,
       ⟨some 4, none, .mov (.t 18)⟩])
      .ret)
     .skip))
   (.seq
    (.reg [⟨some 19, none, .load 2 true (.t 2)⟩,
     ⟨some 20, none, .load 2 true (.t 3)⟩,
     ⟨some 21, none, .call false 23 [(.t 19), (.t 20)]⟩,
     ⟨some 5, none, .mov (.t 21)⟩])
    (.seq
     (.reg [⟨some 22, none, .mov (.t 5)⟩,
      ⟨some 23, none, .load 2 true (.t 2)⟩,
      ⟨some 24, none, .load 2 true (.t 3)⟩,
      ⟨some 25, none, .call false 24 [(.t 23), (.t 24)]⟩,
      ⟨some 26, none, .beq false (.t 22) (.t 25)⟩,
      ⟨some 27, none, .mov (.t 26)⟩,
      ⟨some 28, some (27, true), .mov (.t 5)⟩,
      ⟨some 29, some (27, true), .load 2 true (.t 3)⟩,
      ⟨some 30, some (27, true), .load 2 true (.t 2)⟩,
      ⟨some 31, some (27, true), .call false 23 [(.t 29), (.t 30)]⟩,
      ⟨some 32, some (27, true), .beq false (.t 28) (.t 31)⟩,
      ⟨some 33, none, .pick (.t 27) (.t 32) (.c (.bool false))⟩,
      ⟨some 34, none, .mov (.t 33)⟩,
      ⟨some 35, some (34, true), .load 2 true (.t 2)⟩,
      ⟨some 36, some (34, true), .load 2 true (.t 2)⟩,
      ⟨some 37, some (34, true), .call false 23 [(.t 35), (.t 36)]⟩,
      ⟨some 38, none, .pick (.t 34) (.t 37) (.c (.bool false))⟩,
      ⟨some 39, none, .mov (.t 38)⟩,
      ⟨some 40, some (39, true), .mov (.t 5)⟩,
      ⟨some 41, some (39, true), .un .not (.t 40)⟩,
      ⟨some 42, some (39, true), .mov (.t 41)⟩,
      ⟨some 43, some (42, false), .load 2 true (.t 2)⟩,
      ⟨some 44, some (42, false), .call false 20 [(.t 43)]⟩,
      ⟨some 45, some (42, false), .load 2 true (.t 3)⟩,
      ⟨some 46, some (42, false), .call false 20 [(.t 45)]⟩,
      ⟨some 47, some (42, false), .bin .eql (.t 44) (.t 46)⟩,
      ⟨some 48, some (39, true), .pick (.t 42) (.c (.bool true)) (.t 47)⟩,
      ⟨some 49, none, .pick (.t 39) (.t 48) (.c (.bool false))⟩,
      ⟨some 4, none, .mov (.t 49)⟩])
     .ret)))), none⟩
def k7 : List (List Nat) := []
def o7 : List Nat := [1000032, 1000033, 1000034, 1000057, 1000061, 1000062, 1000079, 1000080, 1000081, 1000082, 1000083, 1000084, 1000086, 1000087, 1000094, 1000097, 1000098, 1000103, 3000000]
def c8b0 : AC := (.seq
        (.seq
         (.reg [⟨some 8, none, .mov (.t 4)⟩,
          ⟨some 9, none, .mov (.t 0)⟩,
          ⟨some 10, none, .bin .rem (.t 9) (.c (.int .u8 60))⟩,
          ⟨some 11, none, .conv (.int .i64) (.t 10)⟩,
          ⟨some 12, none, .bin .lss (.t 8) (.t 11)⟩])
         (.cond (.t 12)
          .skip
          (.exit 0)))
        (.seq
         (.block 1
          (.reg [⟨some 15, none, .load 6 true (.t 3)⟩,
           ⟨some 16, none, .bslice false 6 [(.int .i64 0), (.str []), (.int .i64 0), (.int .i64 0), (.str []), .nilS] 1 [(0, (.t 15))]⟩,
           ⟨some 17, none, .build [(.int .i64 0), (.str []), (.int .i64 0), (.int .i64 0), (.str []), .nilS] [(0, 1, (.c (.int .i64 3))), (5, 1, (.t 16))]⟩,
           ⟨none, none, .store 6 (.t 3) (.t 17)⟩]))
         (.reg [⟨some 13, none, .mov (.t 4)⟩,
          ⟨some 14, none, .bin .add (.t 13) (.c (.int .i64 1))⟩,
          ⟨some 4, none, .mov (.t 14)⟩])))
def c8r0 : AC := (.seq
     (.reg [⟨some 18, none, .load 6 true (.t 3)⟩,
      ⟨some 19, none, .call false 11 [(.t 18)]⟩,
      ⟨some 5, none, .mov (.t 19)⟩])
     (.seq
      (.seq
       (.reg [⟨some 20, none, .mov (.t 0)⟩,
        ⟨some 21, none, .bin .rem (.t 20) (.c (.int .u8 60))⟩,
        ⟨some 22, none, .conv (.int .i64) (.t 21)⟩,
        ⟨some 23, none, .bin .add (.t 22) (.c (.int .i64 1))⟩,
        ⟨some 24, none, .bin .gtr (.t 23) (.c (.int .i64 16))⟩])
       (.cond (.t 24)
        (.seq
         (.reg [⟨some 25, none, .mov (.t 5)⟩,
          ⟨some 26, none, .bin .eql (.t 25) (.c (.int .i64 20))⟩,
          ⟨some 27, none, .mov (.t 26)⟩,
          ⟨some 28, some (27, true), .call false 9 []⟩,
          ⟨some 29, none, .pick (.t 27) (.t 28) (.c (.bool false))⟩,
          ⟨some 2, none, .mov (.t 29)⟩])
         .ret)
        .skip))
      (.seq
       (.reg [⟨some 30, none, .mov (.t 5)⟩,
        ⟨some 31, none, .bin .eql (.t 30) (.c (.int .i64 0))⟩,
        ⟨some 32, none, .mov (.t 31)⟩,
        ⟨some 33, some (32, true), .call false 9 []⟩,
        ⟨some 34, none, .pick (.t 32) (.t 33) (.c (.bool false))⟩,
        ⟨some 2, none, .mov (.t 34)⟩])
       .ret)))
/-- tracebook/tracebooklaw36.SyntaxNests -/
def c8 : AFn := ⟨1, 35, [.t 2],
 (.seq
  (.reg [⟨some 2, none, .mov (.c (.bool false))⟩])
  (.seq
   (.reg [⟨some 6, none, .build [(.int .i64 0), (.int .i64 0), (.str [])] [(0, 1, (.c (.int .i64 1))), (1, 1, (.c (.int .i64 1)))]⟩,
    ⟨some 7, none, .build [(.int .i64 0), (.str []), (.int .i64 0), (.int .i64 0), (.str []), .nilS] [(0, 1, (.c (.int .i64 1))), (2, 3, (.t 6))]⟩,
    ⟨some 3, none, .alloc [(.int .i64 0), (.str []), (.int .i64 0), (.int .i64 0), (.str []), .nilS]⟩,
    ⟨none, none, .store 6 (.t 3) (.t 7)⟩])
   (.seq
    (.seq
     (.reg [⟨some 4, none, .mov (.c (.int .i64 0))⟩])
     (.block 0
      (.loop [0, 3, 4]
       c8b0)))
    c8r0))), none⟩
def k8 : List (List Nat) := [[0, 3, 4]]
def o8 : List Nat := [1000032, 1000033, 1000034, 1000057, 1000061, 1000062, 1000079, 1000080, 1000081, 1000082, 1000083, 1000084, 1000086, 1000087, 1000094, 1000097, 1000098, 1000103, 3000000]
/-- tracebook/tracebooklaw36.awake -/
def c9 : AFn := ⟨0, 61, [.t 0],
 (.seq
  (.reg [⟨some 0, none, .mov (.c (.bool false))⟩])
  (.seq
   (.reg [⟨some 3, none, .bslice false 1 [(.str [])] 1 [(0, (.c (.str [107])))]⟩,
    ⟨some 4, none, .build [(.str []), (.str []), (.str [])] [(0, 1, (.c (.str [99, 111, 117, 110, 116]))), (2, 1, (.c (.str [107])))]⟩,
    ⟨some 5, none, .bslice false 3 [(.str []), (.str []), (.str [])] 1 [(0, (.t 4))]⟩,
    ⟨some 6, none, .build [(.int .i64 0), (.int .i64 0), (.str []), (.int .i64 0), (.int .i64 0), (.str []), .nilS, .nilS, .nilS, .nilS, .nilS, (.int .i64 0), (.str [])] [(0, 1, (.c (.int .i64 3))), (8, 1, (.t 3)), (9, 1, (.t 5))]⟩,
    ⟨some 1, none, .alloc [(.int .i64 0), (.int .i64 0), (.str []), (.int .i64 0), (.int .i64 0), (.str []), .nilS, .nilS, .nilS, .nilS, .nilS, (.int .i64 0), (.str [])]⟩,
    ⟨none, none, .store 13 (.t 1) (.t 6)⟩])
   (.seq
    (.reg [⟨some 7, none, .build [(.int .i64 0), (.str []), (.int .i64 0), (.int .i64 0), (.str []), .nilS] [(0, 1, (.c (.int .i64 2))), (1, 1, (.c (.str [98])))]⟩,
     ⟨some 8, none, .build [(.int .i64 0), (.str []), (.int .i64 0), (.int .i64 0), (.str []), .nilS] [(0, 1, (.c (.int .i64 2))), (1, 1, (.c (.str [97])))]⟩,
     ⟨some 9, none, .bslice false 6 [(.int .i64 0), (.str []), (.int .i64 0), (.int .i64 0), (.str []), .nilS] 2 [(0, (.t 7)), (1, (.t 8))]⟩,
     ⟨some 10, none, .build [(.int .i64 0), (.str []), (.int .i64 0), (.int .i64 0), (.str []), .nilS] [(0, 1, (.c (.int .i64 5))), (5, 1, (.t 9))]⟩,
     ⟨some 2, none, .alloc [(.int .i64 0), (.str []), (.int .i64 0), (.int .i64 0), (.str []), .nilS]⟩,
     ⟨none, none, .store 6 (.t 2) (.t 10)⟩])
    (.seq
     (.reg [⟨some 11, none, .call false 25 [(.c (.str [109, 105, 110])), (.c (.int .i64 1))]⟩,
      ⟨some 12, none, .call false 11 [(.t 11)]⟩,
      ⟨some 13, none, .bin .eql (.t 12) (.c (.int .i64 1))⟩,
      ⟨some 14, none, .mov (.t 13)⟩,
      ⟨some 15, some (14, true), .call false 25 [(.c (.str [115, 105, 110])), (.c (.int .i64 1))]⟩,
      ⟨some 16, some (14, true), .call false 11 [(.t 15)]⟩,
      ⟨some 17, some (14, true), .bin .eql (.t 16) (.c (.int .i64 5))⟩,
      ⟨some 18, none, .pick (.t 14) (.t 17) (.c (.bool false))⟩,
      ⟨some 19, none, .mov (.t 18)⟩,
      ⟨some 20, some (19, true), .call false 25 [(.c (.str [83, 105, 110])), (.c (.int .i64 1))]⟩,
      ⟨some 21, some (19, true), .call false 11 [(.t 20)]⟩,
      ⟨some 22, some (19, true), .bin .eql (.t 21) (.c (.int .i64 3))⟩,
      ⟨some 23, none, .pick (.t 19) (.t 22) (.c (.bool false))⟩,
      ⟨some 24, none, .mov (.t 23)⟩,
      ⟨some 25, some (24, true), .call false 25 [(.c (.str [109, 105, 110])), (.c (.int .i64 2))]⟩,
      ⟨some 26, some (24, true), .call false 11 [(.t 25)]⟩,
      ⟨some 27, some (24, true), .bin .eql (.t 26) (.c (.int .i64 0))⟩,
      ⟨some 28, none, .pick (.t 24) (.t 27) (.c (.bool false))⟩,
      ⟨some 29, none, .mov (.t 28)⟩,
      ⟨some 30, some (29, true), .build [(.int .i64 0), (.int .i64 0), (.str []), (.int .i64 0), (.int .i64 0), (.str []), .nilS, .nilS, .nilS, .nilS, .nilS, (.int .i64 0), (.str [])] [(0, 1, (.c (.int .i64 3)))]⟩,
      ⟨some 31, some (29, true), .call false 17 [(.t 30)]⟩,
      ⟨some 32, some (29, true), .bin .eql (.t 31) (.c (.int .i64 8))⟩,
      ⟨some 33, none, .pick (.t 29) (.t 32) (.c (.bool false))⟩,
      ⟨some 34, none, .mov (.t 33)⟩,
      ⟨some 35, some (34, true), .load 13 true (.t 1)⟩,
      ⟨some 36, some (34, true), .call false 17 [(.t 35)]⟩,
      ⟨some 37, some (34, true), .bin .eql (.t 36) (.c (.int .i64 4))⟩,
      ⟨some 38, none, .pick (.t 34) (.t 37) (.c (.bool false))⟩,
      ⟨some 39, none, .mov (.t 38)⟩,
      ⟨some 40, some (39, true), .load 6 true (.t 2)⟩,
      ⟨some 41, some (39, true), .call false 14 [(.t 40)]⟩,
      ⟨some 42, some (39, true), .bslice false 1 [(.str [])] 2 [(0, (.c (.str [97]))), (1, (.c (.str [98])))]⟩,
      ⟨some 43, some (39, true), .call false 13 [(.t 41), (.t 42)]⟩,
      ⟨some 44, none, .pick (.t 39) (.t 43) (.c (.bool false))⟩,
      ⟨some 45, none, .mov (.t 44)⟩,
      ⟨some 46, some (45, true), .build [(.str []), .nilS] [(0, 1, (.c (.str [115, 108, 105, 99, 101, 115])))]⟩,
      ⟨some 47, some (45, true), .call false 20 [(.t 46)]⟩,
      ⟨some 48, some (45, true), .bin .eql (.t 47) (.c (.int .i64 0))⟩,
      ⟨some 49, none, .pick (.t 45) (.t 48) (.c (.bool false))⟩,
      ⟨some 50, none, .mov (.t 49)⟩,
      ⟨some 51, some (50, true), .build [(.str []), .nilS] [(0, 1, (.c (.str [97])))]⟩,
      ⟨some 52, some (50, true), .build [(.str []), .nilS] [(0, 1, (.c (.str [97])))]⟩,
      ⟨some 53, some (50, true), .call false 23 [(.t 51), (.t 52)]⟩,
      ⟨some 54, none, .pick (.t 50) (.t 53) (.c (.bool false))⟩,
      ⟨some 55, none, .mov (.t 54)⟩,
      ⟨some 56, some (55, true), .build [(.str []), .nilS] [(0, 1, (.c (.str [97])))]⟩,
      ⟨some 57, some (55, true), .build [(.str []), .nilS] [(0, 1, (.c (.str [98])))]⟩,
      ⟨some 58, some (55, true), .call false 23 [(.t 56), (.t 57)]⟩,
      ⟨some 59, some (55, true), .un .not (.t 58)⟩,
      ⟨some 60, none, .pick (.t 55) (.t 59) (.c (.bool false))⟩,
      ⟨some 0, none, .mov (.t 60)⟩])
     .ret)))), none⟩
def k9 : List (List Nat) := []
def o9 : List Nat := [1000032, 1000033, 1000034, 1000057, 1000061, 1000062, 1000079, 1000080, 1000081, 1000082, 1000083, 1000084, 1000086, 1000087, 1000094, 1000097, 1000098, 1000103, 3000000]
/-- tracebook/tracebookref36.Small -/
def c10 : AFn := ⟨1, 6, [.t 2],
 (.seq
  (.reg [⟨some 1, none, .box (.t 0)⟩,
   ⟨some 2, none, .mov (.c (.bool false))⟩])
  (.seq
   (.reg [⟨some 3, none, .load 6 true (.t 1)⟩,
    ⟨some 4, none, .call false 22 [(.t 3), (.c (.int .i64 40)), (.c (.int .i64 300))]⟩,
    ⟨some 5, none, .bin .geq (.t 4) (.c (.int .i64 0))⟩,
    ⟨some 2, none, .mov (.t 5)⟩])
   .ret)), none⟩
def k10 : List (List Nat) := []
def o10 : List Nat := [1000032, 1000033, 1000034, 1000057, 1000061, 1000062, 1000079, 1000080, 1000081, 1000082, 1000083, 1000084, 1000086, 1000087, 1000094, 1000097, 1000098, 1000103, 3000000]
/-- tracebook/syntax.Expr -/
def c11 : AFn := ⟨1, 10, [.t 2],
 (.seq
  (.reg [⟨some 1, none, .box (.t 0)⟩,
   ⟨some 2, none, .mov (.c (.int .i64 0))⟩])
  (.seq
   (.seq
    (.reg [⟨some 3, none, .load 6 true (.t 1)⟩,
     ⟨some 4, none, .call false 26 [(.t 3), (.c (.int .i64 0))]⟩,
     ⟨some 5, none, .bin .gtr (.t 4) (.c (.int .i64 200))⟩])
    (.cond (.t 5)
     (.seq
      (.reg [⟨some 2, none, .mov (.c (.int .i64 7))⟩])
      .ret)
     .skip))
   (.seq
    (.seq
     (.reg [⟨some 6, none, .load 6 true (.t 1)⟩,
      ⟨some 7, none, .call false 27 [(.t 6), (.c (.int .i64 16))]⟩])
     (.cond (.t 7)
      (.seq
       (.reg [⟨some 2, none, .mov (.c (.int .i64 20))⟩])
       .ret)
      .skip))
    (.seq
     (.reg [⟨some 8, none, .load 6 true (.t 1)⟩,
      ⟨some 9, none, .call false 28 [(.t 8)]⟩,
      ⟨some 2, none, .mov (.t 9)⟩])
     .ret)))), none⟩
def k11 : List (List Nat) := []
def o11 : List Nat := [1000032, 1000033, 1000034, 1000057, 1000061, 1000062, 1000079, 1000080, 1000081, 1000082, 1000083, 1000084, 1000086, 1000087, 1000094, 1000097, 1000098, 1000103, 3000000]
/-- tracebook/tracebookref36.Expr -/
def c12 : AFn := ⟨1, 11, [.t 2],
 (.seq
  (.reg [⟨some 1, none, .box (.t 0)⟩,
   ⟨some 2, none, .mov (.c (.int .i64 0))⟩])
  (.seq
   (.seq
    (.reg [⟨some 3, none, .load 6 true (.t 1)⟩,
     ⟨some 4, none, .call false 29 [(.t 3), (.c (.int .i64 200))]⟩,
     ⟨some 5, none, .bin .gtr (.t 4) (.c (.int .i64 200))⟩])
    (.cond (.t 5)
     (.seq
      (.reg [⟨some 2, none, .mov (.c (.int .i64 7))⟩])
      .ret)
     .skip))
   (.seq
    (.seq
     (.reg [⟨some 6, none, .load 6 true (.t 1)⟩,
      ⟨some 7, none, .call false 30 [(.t 6)]⟩,
      ⟨some 8, none, .bin .gtr (.t 7) (.c (.int .i64 16))⟩])
     (.cond (.t 8)
      (.seq
       (.reg [⟨some 2, none, .mov (.c (.int .i64 20))⟩])
       .ret)
      .skip))
    (.seq
     (.reg [⟨some 9, none, .load 6 true (.t 1)⟩,
      ⟨some 10, none, .call false 31 [(.t 9)]⟩,
      ⟨some 2, none, .mov (.t 10)⟩])
     .ret)))), none⟩
def k12 : List (List Nat) := []
def o12 : List Nat := [1000032, 1000033, 1000034, 1000057, 1000061, 1000062, 1000079, 1000080, 1000081, 1000082, 1000083, 1000084, 1000086, 1000087, 1000094, 1000097, 1000098, 1000103, 3000000]
def c13b0 : AC := (.seq
        (.seq
         (.reg [⟨some 11, none, .mov (.t 5)⟩,
          ⟨some 12, none, .mov (.t 0)⟩,
          ⟨some 13, none, .len (.t 12)⟩,
          ⟨some 14, none, .bin .lss (.t 11) (.t 13)⟩])
         (.cond (.t 14)
          .skip
          (.exit 0)))
        (.seq
         (.block 1
          (.seq
           (.reg [⟨some 17, none, .mov (.t 0)⟩,
            ⟨some 18, none, .mov (.t 5)⟩,
            ⟨some 19, none, .iaddr (.slice 1) (.t 17) (.t 18)⟩,
            ⟨some 20, none, .load 1 false (.t 19)⟩,
            ⟨some 21, none, .mov (.t 1)⟩,
            ⟨some 22, none, .mov (.t 5)⟩,
            ⟨some 23, none, .iaddr (.slice 1) (.t 21) (.t 22)⟩,
            ⟨some 24, none, .load 1 false (.t 23)⟩,
            ⟨some 25, none, .bin .neq (.t 20) (.t 24)⟩])
           (.cond (.t 25)
            (.seq
             (.reg [⟨some 4, none, .mov (.c (.bool false))⟩])
             .ret)
            .skip)))
         (.reg [⟨some 15, none, .mov (.t 5)⟩,
          ⟨some 16, none, .bin .add (.t 15) (.c (.int .i64 1))⟩,
          ⟨some 5, none, .mov (.t 16)⟩])))
/-- tracebook/tracebookref07.Texts -/
def c13 : AFn := ⟨2, 26, [.t 4],
 (.seq
  (.reg [⟨some 4, none, .mov (.c (.bool false))⟩])
  (.seq
   (.seq
    (.reg [⟨some 6, none, .mov (.t 0)⟩,
     ⟨some 7, none, .len (.t 6)⟩,
     ⟨some 8, none, .mov (.t 1)⟩,
     ⟨some 9, none, .len (.t 8)⟩,
     ⟨some 10, none, .bin .neq (.t 7) (.t 9)⟩])
    (.cond (.t 10)
     (.seq
      (.reg [⟨some 4, none, .mov (.c (.bool false))⟩])
      .ret)
     .skip))
   (.seq
    (.seq
     (.reg [⟨some 5, none, .mov (.c (.int .i64 0))⟩])
     (.block 0
      (.loop [0, 1, 5]
       c13b0)))
    (.seq
     (.reg [⟨some 4, none, .mov (.c (.bool true))⟩])
     .ret)))), none⟩
def k13 : List (List Nat) := [[0, 1, 5]]
def o13 : List Nat := [1000032, 1000033, 1000034, 1000057, 1000061, 1000062, 1000079, 1000080, 1000081, 1000082, 1000083, 1000084, 1000086, 1000087, 1000094, 1000097, 1000098, 1000103, 3000000]
/-- tracebook/syntax.Columns -/
def c14 : AFn := ⟨1, 13, [.t 2],
 (.seq
  (.reg [⟨some 1, none, .box (.t 0)⟩,
   ⟨some 2, none, .nilv 1⟩])
  (.seq
   (.seq
    (.reg [⟨some 4, none, .load 6 true (.t 1)⟩,
     ⟨some 5, none, .call false 11 [(.t 4)]⟩,
     ⟨some 6, none, .bin .neq (.t 5) (.c (.int .i64 0))⟩])
    (.cond (.t 6)
     (.seq
      (.reg [⟨some 2, none, .nilv 1⟩])
      .ret)
     .skip))
   (.seq
    (.reg [⟨some 7, none, .load 6 true (.t 1)⟩,
     ⟨some 8, none, .callS 32 [(.c .nilS), (.t 7)]⟩,
     ⟨some 3, none, .mov (.t 8)⟩])
    (.seq
     (.reg [⟨some 9, none, .mov (.t 3)⟩,
      ⟨some 10, none, .callS 33 [(.t 9)]⟩])
     (.seq
      (.reg [⟨some 11, none, .mov (.t 3)⟩,
       ⟨some 12, none, .callS 34 [(.t 11)]⟩,
       ⟨some 2, none, .mov (.t 12)⟩])
      .ret))))), none⟩
def k14 : List (List Nat) := []
def o14 : List Nat := [1000032, 1000033, 1000034, 1000057, 1000061, 1000062, 1000079, 1000080, 1000081, 1000082, 1000083, 1000084, 1000086, 1000087, 1000094, 1000097, 1000098, 1000103, 3000000]
/-- tracebook/tracebookref36.Columns -/
def c15 : AFn := ⟨1, 8, [.t 2],
 (.seq
  (.reg [⟨some 1, none, .box (.t 0)⟩,
   ⟨some 2, none, .nilv 1⟩])
  (.seq
   (.seq
    (.reg [⟨some 3, none, .load 6 true (.t 1)⟩,
     ⟨some 4, none, .call false 12 [(.t 3)]⟩,
     ⟨some 5, none, .bin .neq (.t 4) (.c (.int .i64 0))⟩])
    (.cond (.t 5)
     (.seq
      (.reg [⟨some 2, none, .nilv 1⟩])
      .ret)
     .skip))
   (.seq
    (.reg [⟨some 6, none, .load 6 true (.t 1)⟩,
     ⟨some 7, none, .call false 35 [(.c .nilS), (.t 6)]⟩,
     ⟨some 2, none, .mov (.t 7)⟩])
    .ret))), none⟩
def k15 : List (List Nat) := []
def o15 : List Nat := [1000032, 1000033, 1000034, 1000057, 1000061, 1000062, 1000079, 1000080, 1000081, 1000082, 1000083, 1000084, 1000086, 1000087, 1000094, 1000097, 1000098, 1000103, 3000000]
def c16b0 : AC := (.seq
          (.seq
           (.reg [⟨some 79, none, .mov (.t 5)⟩,
            ⟨some 80, none, .faddr 9 (.t 1)⟩,
            ⟨some 81, none, .load 1 false (.t 80)⟩,
            ⟨some 82, none, .len (.t 81)⟩,
            ⟨some 83, none, .bin .lss (.t 79) (.t 82)⟩])
           (.cond (.t 83)
            .skip
            (.exit 4)))
          (.seq
           (.block 5
            (.seq
             (.reg [⟨some 86, none, .faddr 9 (.t 1)⟩,
              ⟨some 87, none, .load 1 false (.t 86)⟩,
              ⟨some 88, none, .mov (.t 5)⟩,
              ⟨some 89, none, .iaddr (.slice 3) (.t 87) (.t 88)⟩,
              ⟨some 90, none, .faddr 1 (.t 89)⟩,
              ⟨some 91, none, .load 1 false (.t 90)⟩,
              ⟨some 92, none, .lenS (.t 91)⟩,
              ⟨some 93, none, .bin .gtr (.t 92) (.c (.int .i64 300))⟩,
              ⟨some 94, none, .mov (.t 93)⟩,
              ⟨some 95, some (94, false), .faddr 9 (.t 1)⟩,
              ⟨some 96, some (94, false), .load 1 false (.t 95)⟩,
              ⟨some 97, some (94, false), .mov (.t 5)⟩,
              ⟨some 98, some (94, false), .iaddr (.slice 3) (.t 96) (.t 97)⟩,
              ⟨some 99, some (94, false), .faddr 2 (.t 98)⟩,
              ⟨some 100, some (94, false), .load 1 false (.t 99)⟩,
              ⟨some 101, some (94, false), .lenS (.t 100)⟩,
              ⟨some 102, some (94, false), .bin .gtr (.t 101) (.c (.int .i64 300))⟩,
              ⟨some 103, none, .pick (.t 94) (.c (.bool true)) (.t 102)⟩])
             (.cond (.t 103)
              (.seq
               (.reg [⟨some 2, none, .mov (.c (.bool false))⟩])
               .ret)
              .skip)))
           (.reg [⟨some 84, none, .mov (.t 5)⟩,
            ⟨some 85, none, .bin .add (.t 84) (.c (.int .i64 1))⟩,
            ⟨some 5, none, .mov (.t 85)⟩])))
def c16b1 : AC := (.seq
         (.seq
          (.reg [⟨some 65, none, .mov (.t 4)⟩,
           ⟨some 66, none, .faddr 8 (.t 1)⟩,
           ⟨some 67, none, .load 1 false (.t 66)⟩,
           ⟨some 68, none, .len (.t 67)⟩,
           ⟨some 69, none, .bin .lss (.t 65) (.t 68)⟩])
          (.cond (.t 69)
           .skip
           (.exit 2)))
         (.seq
          (.block 3
           (.seq
            (.reg [⟨some 72, none, .faddr 8 (.t 1)⟩,
             ⟨some 73, none, .load 1 false (.t 72)⟩,
             ⟨some 74, none, .mov (.t 4)⟩,
             ⟨some 75, none, .iaddr (.slice 1) (.t 73) (.t 74)⟩,
             ⟨some 76, none, .load 1 false (.t 75)⟩,
             ⟨some 77, none, .lenS (.t 76)⟩,
             ⟨some 78, none, .bin .gtr (.t 77) (.c (.int .i64 300))⟩])
            (.cond (.t 78)
             (.seq
              (.reg [⟨some 2, none, .mov (.c (.bool false))⟩])
              .ret)
             .skip)))
          (.reg [⟨some 70, none, .mov (.t 4)⟩,
           ⟨some 71, none, .bin .add (.t 70) (.c (.int .i64 1))⟩,
           ⟨some 4, none, .mov (.t 71)⟩])))
def c16b2 : AC := (.seq
        (.seq
         (.reg [⟨some 40, none, .mov (.t 3)⟩,
          ⟨some 41, none, .faddr 7 (.t 1)⟩,
          ⟨some 42, none, .load 1 false (.t 41)⟩,
          ⟨some 43, none, .len (.t 42)⟩,
          ⟨some 44, none, .bin .lss (.t 40) (.t 43)⟩])
         (.cond (.t 44)
          .skip
          (.exit 0)))
        (.seq
         (.block 1
          (.seq
           (.reg [⟨some 47, none, .faddr 7 (.t 1)⟩,
            ⟨some 48, none, .load 1 false (.t 47)⟩,
            ⟨some 49, none, .mov (.t 3)⟩,
            ⟨some 50, none, .iaddr (.slice 7) (.t 48) (.t 49)⟩,
            ⟨some 51, none, .faddr 0 (.t 50)⟩,
            ⟨some 52, none, .load 6 true (.t 51)⟩,
            ⟨some 53, none, .call false 10 [(.t 52)]⟩,
            ⟨some 54, none, .un .not (.t 53)⟩,
            ⟨some 55, none, .mov (.t 54)⟩,
            ⟨some 56, some (55, false), .faddr 7 (.t 1)⟩,
            ⟨some 57, some (55, false), .load 1 false (.t 56)⟩,
            ⟨some 58, some (55, false), .mov (.t 3)⟩,
            ⟨some 59, some (55, false), .iaddr (.slice 7) (.t 57) (.t 58)⟩,
            ⟨some 60, some (55, false), .faddr 6 (.t 59)⟩,
            ⟨some 61, some (55, false), .load 1 false (.t 60)⟩,
            ⟨some 62, some (55, false), .lenS (.t 61)⟩,
            ⟨some 63, some (55, false), .bin .gtr (.t 62) (.c (.int .i64 300))⟩,
            ⟨some 64, none, .pick (.t 55) (.c (.bool true)) (.t 63)⟩])
           (.cond (.t 64)
            (.seq
             (.reg [⟨some 2, none, .mov (.c (.bool false))⟩])
             .ret)
            .skip)))
         (.reg [⟨some 45, none, .mov (.t 3)⟩,
          ⟨some 46, none, .bin .add (.t 45) (.c (.int .i64 1))⟩,
          ⟨some 3, none, .mov (.t 46)⟩])))
def c16r0 : AC := (.seq
      (.seq
       (.reg [⟨some 5, none, .mov (.c (.int .i64 0))⟩])
       (.block 4
        (.loop [1, 5]
         c16b0)))
      (.seq
       (.reg [⟨some 2, none, .mov (.c (.bool true))⟩])
       .ret))
def c16r1 : AC := (.seq
     (.seq
      (.reg [⟨some 4, none, .mov (.c (.int .i64 0))⟩])
      (.block 2
       (.loop [1, 4]
        c16b1)))
     c16r0)
/-- tracebook/tracebookref36.FewStep -/
def c16 : AFn := ⟨1, 104, [.t 2],
 (.seq
  (.reg [⟨some 1, none, .box (.t 0)⟩,
   ⟨some 2, none, .mov (.c (.bool false))⟩])
  (.seq
   (.seq
    (.reg [⟨some 6, none, .faddr 1 (.t 1)⟩,
     ⟨some 7, none, .load 6 true (.t 6)⟩,
     ⟨some 8, none, .call false 10 [(.t 7)]⟩,
     ⟨some 9, none, .un .not (.t 8)⟩,
     ⟨some 10, none, .mov (.t 9)⟩,
     ⟨some 11, some (10, false), .faddr 7 (.t 1)⟩,
     ⟨some 12, some (10, false), .load 1 false (.t 11)⟩,
     ⟨some 13, some (10, false), .len (.t 12)⟩,
     ⟨some 14, some (10, false), .bin .gtr (.t 13) (.c (.int .i64 30))⟩,
     ⟨some 15, none, .pick (.t 10) (.c (.bool true)) (.t 14)⟩,
     ⟨some 16, none, .mov (.t 15)⟩,
     ⟨some 17, some (16, false), .faddr 8 (.t 1)⟩,
     ⟨some 18, some (16, false), .load 1 false (.t 17)⟩,
     ⟨some 19, some (16, false), .len (.t 18)⟩,
     ⟨some 20, some (16, false), .bin .gtr (.t 19) (.c (.int .i64 30))⟩,
     ⟨some 21, none, .pick (.t 16) (.c (.bool true)) (.t 20)⟩,
     ⟨some 22, none, .mov (.t 21)⟩,
     ⟨some 23, some (22, false), .faddr 9 (.t 1)⟩,
     ⟨some 24, some (22, false), .load 1 false (.t 23)⟩,
     ⟨some 25, some (22, false), .len (.t 24)⟩,
     ⟨some 26, some (22, false), .bin .gtr (.t 25) (.c (.int .i64 30))⟩,
     ⟨some 27, none, .pick (.t 22) (.c (.bool true)) (.t 26)⟩,
     ⟨some 28, none, .mov (.t 27)⟩,
     ⟨some 29, some (28, false), .faddr 10 (.t 1)⟩,
     ⟨some 30, some (28, false), .load 1 false (.t 29)⟩,
     ⟨some 31, some (28, false), .len (.t 30)⟩,
     ⟨some 32, some (28, false), .bin .gtr (.t 31) (.c (.int .i64 30))⟩,
     ⟨some 33, none, .pick (.t 28) (.c (.bool true)) (.t 32)⟩,
     ⟨some 34, none, .mov (.t 33)⟩,
     ⟨some 35, some (34, false), .faddr 12 (.t 1)⟩,
     ⟨some 36, some (34, false), .load 1 false (.t 35)⟩,
     ⟨some 37, some (34, false), .lenS (.t 36)⟩,
     ⟨some 38, some (34, false), .bin .gtr (.t 37) (.c (.int .i64 300))⟩,
     ⟨some 39, none, .pick (.t 34) (.c (.bool true)) (.t 38)⟩])
    (.cond (.t 39)
     (.seq
      (.reg [⟨some 2, none, .mov (.c (.bool false))⟩])
      .ret)
     .skip))
   (.seq
    (.seq
     (.reg [⟨some 3, none, .mov (.c (.int .i64 0))⟩])
     (.block 0
      (.loop [1, 3]
       c16b2)))
    c16r1))), none⟩
def k16 : List (List Nat) := [[1, 3], [1, 4], [1, 5]]
def o16 : List Nat := [1000032, 1000033, 1000034, 1000057, 1000061, 1000062, 1000079, 1000080, 1000081, 1000082, 1000083, 1000084, 1000086, 1000087, 1000094, 1000097, 1000098, 1000103, 3000000]
/-- tracebook/syntax.Step -/
def c17 : AFn := ⟨1, 66, [.t 2],
 (.seq
  (.reg [⟨some 1, none, .box (.t 0)⟩,
   ⟨some 2, none, .mov (.c (.int .i64 0))⟩])
  (.seq
   (.seq
    (.reg [⟨some 3, none, .faddr 0 (.t 1)⟩,
     ⟨some 4, none, .load 1 false (.t 3)⟩,
     ⟨some 5, none, .bin .lss (.t 4) (.c (.int .i64 1))⟩,
     ⟨some 6, none, .mov (.t 5)⟩,
     ⟨some 7, some (6, false), .faddr 0 (.t 1)⟩,
     ⟨some 8, some (6, false), .load 1 false (.t 7)⟩,
     ⟨some 9, some (6, false), .bin .gtr (.t 8) (.c (.int .i64 9))⟩,
     ⟨some 10, none, .pick (.t 6) (.c (.bool true)) (.t 9)⟩,
     ⟨some 11, none, .mov (.t 10)⟩,
     ⟨some 12, some (11, false), .load 13 true (.t 1)⟩,
     ⟨some 13, some (11, false), .call false 37 [(.t 12)]⟩,
     ⟨some 14, some (11, false), .call false 36 [(.t 13)]⟩,
     ⟨some 15, some (11, false), .un .not (.t 14)⟩,
     ⟨some 16, none, .pick (.t 11) (.c (.bool true)) (.t 15)⟩])
    (.cond (.t 16)
     (.seq
      (.reg [⟨some 2, none, .mov (.c (.int .i64 1))⟩])
      .ret)
     .skip))
   (.seq
    (.seq
     (.reg [⟨some 17, none, .faddr 0 (.t 1)⟩,
      ⟨some 18, none, .load 1 false (.t 17)⟩])
     (.block 0
      (.seq
       (.reg [⟨some 20, none, .bin .eql (.t 18) (.c (.int .i64 1))⟩,
        ⟨some 19, none, .mov (.t 20)⟩])
       (.cond (.t 19)
        (.seq
         (.reg [⟨some 21, none, .faddr 1 (.t 1)⟩,
          ⟨some 22, none, .load 6 true (.t 21)⟩,
          ⟨some 23, none, .call false 11 [(.t 22)]⟩,
          ⟨some 2, none, .mov (.t 23)⟩])
         .ret)
        (.seq
         (.reg [⟨some 25, none, .bin .eql (.t 18) (.c (.int .i64 2))⟩,
          ⟨some 24, none, .mov (.t 25)⟩])
         (.cond (.t 24)
          (.seq
           (.reg [⟨some 26, none, .faddr 7 (.t 1)⟩,
            ⟨some 27, none, .load 1 false (.t 26)⟩,
            ⟨some 28, none, .call false 38 [(.t 27)]⟩,
            ⟨some 2, none, .mov (.t 28)⟩])
           .ret)
          (.seq
           (.reg [⟨some 30, none, .bin .eql (.t 18) (.c (.int .i64 3))⟩,
            ⟨some 29, none, .mov (.t 30)⟩])
           (.cond (.t 29)
            (.seq
             (.reg [⟨some 31, none, .load 13 true (.t 1)⟩,
              ⟨some 32, none, .call false 39 [(.t 31)]⟩,
              ⟨some 2, none, .mov (.t 32)⟩])
             .ret)
            (.seq
             (.reg [⟨some 34, none, .bin .eql (.t 18) (.c (.int .i64 4))⟩,
              ⟨some 33, none, .mov (.t 34)⟩])
             (.cond (.t 33)
              (.seq
               (.reg [⟨some 35, none, .faddr 10 (.t 1)⟩,
                ⟨some 36, none, .load 1 false (.t 35)⟩,
                ⟨some 37, none, .call false 40 [(.t 36)]⟩,
                ⟨some 2, none, .mov (.t 37)⟩])
               .ret)
              (.seq
               (.reg [⟨some 39, none, .bin .eql (.t 18) (.c (.int .i64 5))⟩,
                ⟨some 38, none, .mov (.t 39)⟩])
               (.cond (.t 38)
                (.seq
                 (.seq
                  (.reg [⟨some 40, none, .faddr 11 (.t 1)⟩,
                   ⟨some 41, none, .load 1 false (.t 40)⟩,
                   ⟨some 42, none, .bin .lss (.t 41) (.c (.int .i64 0))⟩,
                   ⟨some 43, none, .mov (.t 42)⟩,
                   ⟨some 44, some (43, false), .faddr 11 (.t 1)⟩,
                   ⟨some 45, some (43, false), .load 1 false (.t 44)⟩,
                   ⟨some 46, some (43, false), .bin .gtr (.t 45) (.c (.int .i64 20000))⟩,
                   ⟨some 47, none, .pick (.t 43) (.c (.bool true)) (.t 46)⟩])
                  (.cond (.t 47)
                   (.seq
                    (.reg [⟨some 2, none, .mov (.c (.int .i64 2))⟩])
                    .ret)
                   .skip))
                 (.seq
                  (.reg [⟨some 2, none, .mov (.c (.int .i64 0))⟩])
                  .ret))
                (.seq
                 (.reg [⟨some 49, none, .bin .eql (.t 18) (.c (.int .i64 9))⟩,
                  ⟨some 48, none, .mov (.t 49)⟩])
                 (.cond (.t 48)
                  (.seq
                   (.reg [⟨some 50, none, .faddr 8 (.t 1)⟩,
                    ⟨some 51, none, .load 1 false (.t 50)⟩,
                    ⟨some 52, none, .call false 41 [(.t 51), (.c (.int .i64 0))]⟩,
                    ⟨some 2, none, .mov (.t 52)⟩])
                   .ret)
                  .skip))))))))))))))
    (.seq
     (.seq
      (.reg [⟨some 53, none, .faddr 12 (.t 1)⟩,
       ⟨some 54, none, .load 1 false (.t 53)⟩,
       ⟨some 55, none, .call false 42 [(.t 54)]⟩,
       ⟨some 56, none, .un .not (.t 55)⟩])
      (.cond (.t 56)
       (.seq
        (.reg [⟨some 2, none, .mov (.c (.int .i64 3))⟩])
        .ret)
       .skip))
     (.seq
      (.seq
       (.reg [⟨some 57, none, .faddr 0 (.t 1)⟩,
        ⟨some 58, none, .load 1 false (.t 57)⟩,
        ⟨some 59, none, .bin .eql (.t 58) (.c (.int .i64 6))⟩])
       (.cond (.t 59)
        (.seq
         (.reg [⟨some 60, none, .faddr 8 (.t 1)⟩,
          ⟨some 61, none, .load 1 false (.t 60)⟩,
          ⟨some 62, none, .call false 41 [(.t 61), (.c (.int .i64 1))]⟩,
          ⟨some 2, none, .mov (.t 62)⟩])
         .ret)
        .skip))
      (.seq
       (.reg [⟨some 63, none, .faddr 8 (.t 1)⟩,
        ⟨some 64, none, .load 1 false (.t 63)⟩,
        ⟨some 65, none, .call false 41 [(.t 64), (.c (.int .i64 0))]⟩,
        ⟨some 2, none, .mov (.t 65)⟩])
       .ret)))))), none⟩
def k17 : List (List Nat) := []
def o17 : List Nat := [1000032, 1000033, 1000034, 1000057, 1000061, 1000062, 1000079, 1000080, 1000081, 1000082, 1000083, 1000084, 1000086, 1000087, 1000094, 1000097, 1000098, 1000103, 3000000]
/-- tracebook/tracebookref36.Step -/
def c18 : AFn := ⟨1, 78, [.t 2],
 (.seq
  (.reg [⟨some 1, none, .box (.t 0)⟩,
   ⟨some 2, none, .mov (.c (.int .i64 0))⟩])
  (.seq
   (.seq
    (.reg [⟨some 5, none, .faddr 0 (.t 1)⟩,
     ⟨some 6, none, .load 1 false (.t 5)⟩,
     ⟨some 7, none, .bin .lss (.t 6) (.c (.int .i64 1))⟩,
     ⟨some 8, none, .mov (.t 7)⟩,
     ⟨some 9, some (8, false), .faddr 0 (.t 1)⟩,
     ⟨some 10, some (8, false), .load 1 false (.t 9)⟩,
     ⟨some 11, some (8, false), .bin .gtr (.t 10) (.c (.int .i64 9))⟩,
     ⟨some 12, none, .pick (.t 8) (.c (.bool true)) (.t 11)⟩,
     ⟨some 13, none, .mov (.t 12)⟩,
     ⟨some 14, some (13, false), .load 13 true (.t 1)⟩,
     ⟨some 15, some (13, false), .call false 43 [(.t 14)]⟩,
     ⟨some 16, some (13, false), .un .not (.t 15)⟩,
     ⟨some 17, none, .pick (.t 13) (.c (.bool true)) (.t 16)⟩])
    (.cond (.t 17)
     (.seq
      (.reg [⟨some 2, none, .mov (.c (.int .i64 1))⟩])
      .ret)
     .skip))
   (.seq
    (.reg [⟨some 18, none, .faddr 0 (.t 1)⟩,
     ⟨some 19, none, .load 1 false (.t 18)⟩,
     ⟨some 20, none, .bin .eql (.t 19) (.c (.int .i64 6))⟩,
     ⟨some 21, none, .mov (.t 20)⟩,
     ⟨some 22, some (21, false), .faddr 0 (.t 1)⟩,
     ⟨some 23, some (21, false), .load 1 false (.t 22)⟩,
     ⟨some 24, some (21, false), .bin .eql (.t 23) (.c (.int .i64 7))⟩,
     ⟨some 25, none, .pick (.t 21) (.c (.bool true)) (.t 24)⟩,
     ⟨some 26, none, .mov (.t 25)⟩,
     ⟨some 27, some (26, false), .faddr 0 (.t 1)⟩,
     ⟨some 28, some (26, false), .load 1 false (.t 27)⟩,
     ⟨some 29, some (26, false), .bin .eql (.t 28) (.c (.int .i64 8))⟩,
     ⟨some 30, none, .pick (.t 26) (.c (.bool true)) (.t 29)⟩,
     ⟨some 3, none, .mov (.t 30)⟩])
    (.seq
     (.seq
      (.reg [⟨some 31, none, .mov (.t 3)⟩,
       ⟨some 32, none, .mov (.t 31)⟩,
       ⟨some 33, some (32, true), .faddr 12 (.t 1)⟩,
       ⟨some 34, some (32, true), .load 1 false (.t 33)⟩,
       ⟨some 35, some (32, true), .call false 44 [(.t 34)]⟩,
       ⟨some 36, some (32, true), .un .not (.t 35)⟩,
       ⟨some 37, none, .pick (.t 32) (.t 36) (.c (.bool false))⟩])
      (.cond (.t 37)
       (.seq
        (.reg [⟨some 2, none, .mov (.c (.int .i64 3))⟩])
        .ret)
       .skip))
     (.seq
      (.reg [⟨some 38, none, .load 13 true (.t 1)⟩,
       ⟨some 39, none, .call false 45 [(.t 38)]⟩,
       ⟨some 4, none, .mov (.t 39)⟩])
      (.seq
       (.seq
        (.reg [⟨some 40, none, .mov (.t 4)⟩,
         ⟨some 41, none, .bin .neq (.t 40) (.c (.int .i64 0))⟩])
        (.cond (.t 41)
         (.seq
          (.reg [⟨some 42, none, .mov (.t 4)⟩,
           ⟨some 2, none, .mov (.t 42)⟩])
          .ret)
         .skip))
       (.seq
        (.seq
         (.reg [⟨some 43, none, .faddr 0 (.t 1)⟩,
          ⟨some 44, none, .load 1 false (.t 43)⟩])
         (.block 0
          (.seq
           (.reg [⟨some 46, none, .bin .eql (.t 44) (.c (.int .i64 1))⟩,
            ⟨some 45, none, .mov (.t 46)⟩])
           (.cond (.t 45)
            (.seq
             (.reg [⟨some 47, none, .faddr 1 (.t 1)⟩,
              ⟨some 48, none, .load 6 true (.t 47)⟩,
              ⟨some 49, none, .call false 12 [(.t 48)]⟩,
              ⟨some 2, none, .mov (.t 49)⟩])
             .ret)
            (.seq
             (.reg [⟨some 51, none, .bin .eql (.t 44) (.c (.int .i64 2))⟩,
              ⟨some 50, none, .mov (.t 51)⟩])
             (.cond (.t 50)
              (.seq
               (.reg [⟨some 52, none, .faddr 7 (.t 1)⟩,
                ⟨some 53, none, .load 1 false (.t 52)⟩,
                ⟨some 54, none, .call false 46 [(.t 53)]⟩,
                ⟨some 2, none, .mov (.t 54)⟩])
               .ret)
              (.seq
               (.reg [⟨some 56, none, .bin .eql (.t 44) (.c (.int .i64 3))⟩,
                ⟨some 55, none, .mov (.t 56)⟩])
               (.cond (.t 55)
                (.seq
                 (.reg [⟨some 57, none, .load 13 true (.t 1)⟩,
                  ⟨some 58, none, .call false 47 [(.t 57)]⟩,
                  ⟨some 2, none, .mov (.t 58)⟩])
                 .ret)
                (.seq
                 (.reg [⟨some 60, none, .bin .eql (.t 44) (.c (.int .i64 4))⟩,
                  ⟨some 59, none, .mov (.t 60)⟩])
                 (.cond (.t 59)
                  (.seq
                   (.reg [⟨some 61, none, .faddr 10 (.t 1)⟩,
                    ⟨some 62, none, .load 1 false (.t 61)⟩,
                    ⟨some 63, none, .call false 49 [(.t 62)]⟩,
                    ⟨some 64, none, .call false 48 [(.t 63)]⟩,
                    ⟨some 2, none, .mov (.t 64)⟩])
                   .ret)
                  (.seq
                   (.reg [⟨some 66, none, .bin .eql (.t 44) (.c (.int .i64 5))⟩,
                    ⟨some 65, none, .mov (.t 66)⟩])
                   (.cond (.t 65)
                    (.seq
                     (.seq
                      (.reg [⟨some 67, none, .faddr 11 (.t 1)⟩,
                       ⟨some 68, none, .load 1 false (.t 67)⟩,
                       ⟨some 69, none, .bin .lss (.t 68) (.c (.int .i64 0))⟩,
                       ⟨some 70, none, .mov (.t 69)⟩,
                       ⟨some 71, some (70, false), .faddr 11 (.t 1)⟩,
                       ⟨some 72, some (70, false), .load 1 false (.t 71)⟩,
                       ⟨some 73, some (70, false), .bin .gtr (.t 72) (.c (.int .i64 20000))⟩,
                       ⟨some 74, none, .pick (.t 70) (.c (.bool true)) (.t 73)⟩])
                      (.cond (.t 74)
                       (.seq
                        (.reg [⟨some 2, none, .mov (.c (.int .i64 2))⟩])
                        .ret)
                       .skip))
                     (.seq
                      (.reg [⟨some 2, none, .mov (.c (.int .i64 0))⟩])
                      .ret))
                    .skip))))))))))))
        (.seq
         (.reg [⟨some 75, none, .faddr 8 (.t 1)⟩,
          ⟨some 76, none, .load 1 false (.t 75)⟩,
          ⟨some 77, none, .call false 48 [(.t 76)]⟩,
          ⟨some 2, none, .mov (.t 77)⟩])
         .ret)))))))), none⟩
def k18 : List (List Nat) := []
def o18 : List Nat := [1000032, 1000033, 1000034, 1000057, 1000061, 1000062, 1000079, 1000080, 1000081, 1000082, 1000083, 1000084, 1000086, 1000087, 1000094, 1000097, 1000098, 1000103, 3000000]
def c19b0 : AC := (.seq
        (.seq
         (.reg [⟨some 14, none, .mov (.t 3)⟩,
          ⟨some 15, none, .faddr 1 (.t 1)⟩,
          ⟨some 16, none, .load 1 false (.t 15)⟩,
          ⟨some 17, none, .len (.t 16)⟩,
          ⟨some 18, none, .bin .lss (.t 14) (.t 17)⟩])
         (.cond (.t 18)
          .skip
          (.exit 0)))
        (.seq
         (.block 1
          (.seq
           (.reg [⟨some 21, none, .faddr 1 (.t 1)⟩,
            ⟨some 22, none, .load 1 false (.t 21)⟩,
            ⟨some 23, none, .mov (.t 3)⟩,
            ⟨some 24, none, .iaddr (.slice 13) (.t 22) (.t 23)⟩,
            ⟨some 25, none, .load 13 true (.t 24)⟩,
            ⟨some 26, none, .call false 16 [(.t 25)]⟩,
            ⟨some 27, none, .un .not (.t 26)⟩])
           (.cond (.t 27)
            (.seq
             (.reg [⟨some 2, none, .mov (.c (.bool false))⟩])
             .ret)
            .skip)))
         (.reg [⟨some 19, none, .mov (.t 3)⟩,
          ⟨some 20, none, .bin .add (.t 19) (.c (.int .i64 1))⟩,
          ⟨some 3, none, .mov (.t 20)⟩])))
/-- tracebook/tracebookref36.Few -/
def c19 : AFn := ⟨1, 28, [.t 2],
 (.seq
  (.reg [⟨some 1, none, .box (.t 0)⟩,
   ⟨some 2, none, .mov (.c (.bool false))⟩])
  (.seq
   (.seq
    (.reg [⟨some 4, none, .faddr 1 (.t 1)⟩,
     ⟨some 5, none, .load 1 false (.t 4)⟩,
     ⟨some 6, none, .len (.t 5)⟩,
     ⟨some 7, none, .bin .gtr (.t 6) (.c (.int .i64 30))⟩,
     ⟨some 8, none, .mov (.t 7)⟩,
     ⟨some 9, some (8, false), .faddr 0 (.t 1)⟩,
     ⟨some 10, some (8, false), .load 1 false (.t 9)⟩,
     ⟨some 11, some (8, false), .lenS (.t 10)⟩,
     ⟨some 12, some (8, false), .bin .gtr (.t 11) (.c (.int .i64 300))⟩,
     ⟨some 13, none, .pick (.t 8) (.c (.bool true)) (.t 12)⟩])
    (.cond (.t 13)
     (.seq
      (.reg [⟨some 2, none, .mov (.c (.bool false))⟩])
      .ret)
     .skip))
   (.seq
    (.seq
     (.reg [⟨some 3, none, .mov (.c (.int .i64 0))⟩])
     (.block 0
      (.loop [1, 3]
       c19b0)))
    (.seq
     (.reg [⟨some 2, none, .mov (.c (.bool true))⟩])
     .ret)))), none⟩
def k19 : List (List Nat) := [[1, 3]]
def o19 : List Nat := [1000032, 1000033, 1000034, 1000057, 1000061, 1000062, 1000079, 1000080, 1000081, 1000082, 1000083, 1000084, 1000086, 1000087, 1000094, 1000097, 1000098, 1000103, 3000000]
def c20b0 : AC := (.seq
         (.reg [⟨some 18, none, .bin .lss (.t 17) (.t 16)⟩])
         (.seq
          (.cond (.t 18)
           .skip
           (.exit 0))
          (.seq
           (.block 1
            (.seq
             (.reg [⟨some 19, none, .iaddr (.slice 13) (.t 15) (.t 17)⟩,
              ⟨some 20, none, .load 13 true (.t 19)⟩,
              ⟨some 4, none, .alloc [(.int .i64 0), (.int .i64 0), (.str []), (.int .i64 0), (.int .i64 0), (.str []), .nilS, .nilS, .nilS, .nilS, .nilS, (.int .i64 0), (.str [])]⟩,
              ⟨none, none, .store 13 (.t 4) (.t 20)⟩])
             (.seq
              (.reg [⟨some 21, none, .load 13 true (.t 4)⟩,
               ⟨some 22, none, .call false 17 [(.t 21)]⟩,
               ⟨some 5, none, .mov (.t 22)⟩])
              (.seq
               (.reg [⟨some 23, none, .mov (.t 5)⟩,
                ⟨some 24, none, .bin .neq (.t 23) (.c (.int .i64 0))⟩])
               (.cond (.t 24)
                (.seq
                 (.reg [⟨some 25, none, .mov (.t 5)⟩,
                  ⟨some 2, none, .mov (.t 25)⟩])
                 .ret)
                .skip)))))
           (.reg [⟨some 26, none, .bin .add (.t 17) (.c (.int .i64 1))⟩,
            ⟨some 17, none, .mov (.t 26)⟩]))))
/-- tracebook/syntax.Query -/
def c20 : AFn := ⟨1, 27, [.t 2],
 (.seq
  (.reg [⟨some 1, none, .box (.t 0)⟩,
   ⟨some 2, none, .mov (.c (.int .i64 0))⟩])
  (.seq
   (.seq
    (.reg [⟨some 6, none, .faddr 0 (.t 1)⟩,
     ⟨some 7, none, .load 1 false (.t 6)⟩,
     ⟨some 8, none, .call false 42 [(.t 7)]⟩,
     ⟨some 9, none, .un .not (.t 8)⟩])
    (.cond (.t 9)
     (.seq
      (.reg [⟨some 2, none, .mov (.c (.int .i64 3))⟩])
      .ret)
     .skip))
   (.seq
    (.seq
     (.reg [⟨some 10, none, .faddr 1 (.t 1)⟩,
      ⟨some 11, none, .load 1 false (.t 10)⟩,
      ⟨some 12, none, .len (.t 11)⟩,
      ⟨some 13, none, .bin .gtr (.t 12) (.c (.int .i64 16))⟩])
     (.cond (.t 13)
      (.seq
       (.reg [⟨some 2, none, .mov (.c (.int .i64 7))⟩])
       .ret)
      .skip))
    (.seq
     (.seq
      (.reg [⟨some 14, none, .faddr 1 (.t 1)⟩,
       ⟨some 15, none, .load 1 false (.t 14)⟩,
       ⟨some 16, none, .len (.t 15)⟩,
       ⟨some 17, none, .mov (.c (.int .i64 0))⟩])
      (.block 0
       (.loop [15, 16, 17]
        c20b0)))
     (.seq
      (.reg [⟨some 2, none, .mov (.c (.int .i64 0))⟩])
      .ret))))), none⟩
def k20 : List (List Nat) := [[15, 16, 17]]
def o20 : List Nat := [1000032, 1000033, 1000034, 1000057, 1000061, 1000062, 1000079, 1000080, 1000081, 1000082, 1000083, 1000084, 1000086, 1000087, 1000094, 1000097, 1000098, 1000103, 3000000]
def c21b0 : AC := (.seq
         (.seq
          (.reg [⟨some 13, none, .mov (.t 3)⟩,
           ⟨some 14, none, .faddr 1 (.t 1)⟩,
           ⟨some 15, none, .load 1 false (.t 14)⟩,
           ⟨some 16, none, .len (.t 15)⟩,
           ⟨some 17, none, .bin .lss (.t 13) (.t 16)⟩])
          (.cond (.t 17)
           .skip
           (.exit 0)))
         (.seq
          (.block 1
           (.seq
            (.reg [⟨some 20, none, .faddr 1 (.t 1)⟩,
             ⟨some 21, none, .load 1 false (.t 20)⟩,
             ⟨some 22, none, .mov (.t 3)⟩,
             ⟨some 23, none, .iaddr (.slice 13) (.t 21) (.t 22)⟩,
             ⟨some 24, none, .load 13 true (.t 23)⟩,
             ⟨some 25, none, .call false 18 [(.t 24)]⟩,
             ⟨some 4, none, .mov (.t 25)⟩])
            (.seq
             (.reg [⟨some 26, none, .mov (.t 4)⟩,
              ⟨some 27, none, .bin .neq (.t 26) (.c (.int .i64 0))⟩])
             (.cond (.t 27)
              (.seq
               (.reg [⟨some 28, none, .mov (.t 4)⟩,
                ⟨some 2, none, .mov (.t 28)⟩])
               .ret)
              .skip))))
          (.reg [⟨some 18, none, .mov (.t 3)⟩,
           ⟨some 19, none, .bin .add (.t 18) (.c (.int .i64 1))⟩,
           ⟨some 3, none, .mov (.t 19)⟩])))
/-- tracebook/tracebookref36.Query -/
def c21 : AFn := ⟨1, 29, [.t 2],
 (.seq
  (.reg [⟨some 1, none, .box (.t 0)⟩,
   ⟨some 2, none, .mov (.c (.int .i64 0))⟩])
  (.seq
   (.seq
    (.reg [⟨some 5, none, .faddr 0 (.t 1)⟩,
     ⟨some 6, none, .load 1 false (.t 5)⟩,
     ⟨some 7, none, .call false 44 [(.t 6)]⟩,
     ⟨some 8, none, .un .not (.t 7)⟩])
    (.cond (.t 8)
     (.seq
      (.reg [⟨some 2, none, .mov (.c (.int .i64 3))⟩])
      .ret)
     .skip))
   (.seq
    (.seq
     (.reg [⟨some 9, none, .faddr 1 (.t 1)⟩,
      ⟨some 10, none, .load 1 false (.t 9)⟩,
      ⟨some 11, none, .len (.t 10)⟩,
      ⟨some 12, none, .bin .gtr (.t 11) (.c (.int .i64 16))⟩])
     (.cond (.t 12)
      (.seq
       (.reg [⟨some 2, none, .mov (.c (.int .i64 7))⟩])
       .ret)
      .skip))
    (.seq
     (.seq
      (.reg [⟨some 3, none, .mov (.c (.int .i64 0))⟩])
      (.block 0
       (.loop [1, 3]
        c21b0)))
     (.seq
      (.reg [⟨some 2, none, .mov (.c (.int .i64 0))⟩])
      .ret))))), none⟩
def k21 : List (List Nat) := [[1, 3]]
def o21 : List Nat := [1000032, 1000033, 1000034, 1000057, 1000061, 1000062, 1000079, 1000080, 1000081, 1000082, 1000083, 1000084, 1000086, 1000087, 1000094, 1000097, 1000098, 1000103, 3000000]
def c22b0 : AC := (.seq
         (.seq
          (.reg [⟨some 29, none, .mov (.t 7)⟩,
           ⟨some 30, none, .faddr 5 (.t 3)⟩,
           ⟨some 31, none, .load 1 false (.t 30)⟩,
           ⟨some 32, none, .len (.t 31)⟩,
           ⟨some 33, none, .bin .lss (.t 29) (.t 32)⟩])
          (.cond (.t 33)
           .skip
           (.exit 0)))
         (.seq
          (.block 1
           (.seq
            (.reg [⟨some 36, none, .faddr 5 (.t 3)⟩,
             ⟨some 37, none, .load 1 false (.t 36)⟩,
             ⟨some 38, none, .mov (.t 7)⟩,
             ⟨some 39, none, .iaddr (.slice 6) (.t 37) (.t 38)⟩,
             ⟨some 40, none, .load 6 true (.t 39)⟩,
             ⟨some 41, none, .mov (.t 1)⟩,
             ⟨some 42, none, .bin .sub (.t 41) (.c (.int .i64 1))⟩,
             ⟨some 43, none, .mov (.t 2)⟩,
             ⟨some 44, none, .call false 22 [(.t 40), (.t 42), (.t 43)]⟩,
             ⟨some 2, none, .mov (.t 44)⟩])
            (.seq
             (.reg [⟨some 45, none, .mov (.t 2)⟩,
              ⟨some 46, none, .bin .lss (.t 45) (.c (.int .i64 0))⟩])
             (.cond (.t 46)
              (.seq
               (.reg [⟨some 6, none, .mov (.c (.int .i64 (-1)))⟩])
               .ret)
              .skip))))
          (.reg [⟨some 34, none, .mov (.t 7)⟩,
           ⟨some 35, none, .bin .add (.t 34) (.c (.int .i64 1))⟩,
           ⟨some 7, none, .mov (.t 35)⟩])))
/-- tracebook/tracebookref36.Deep -/
def c22 : AFn := ⟨3, 48, [.t 6],
 (.seq
  (.reg [⟨some 3, none, .box (.t 0)⟩,
   ⟨some 6, none, .mov (.c (.int .i64 0))⟩])
  (.seq
   (.reg [⟨some 8, none, .mov (.t 2)⟩,
    ⟨some 9, none, .bin .sub (.t 8) (.c (.int .i64 1))⟩,
    ⟨some 2, none, .mov (.t 9)⟩])
   (.seq
    (.seq
     (.reg [⟨some 10, none, .mov (.t 1)⟩,
      ⟨some 11, none, .bin .lss (.t 10) (.c (.int .i64 1))⟩,
      ⟨some 12, none, .mov (.t 11)⟩,
      ⟨some 13, some (12, false), .mov (.t 2)⟩,
      ⟨some 14, some (12, false), .bin .lss (.t 13) (.c (.int .i64 0))⟩,
      ⟨some 15, none, .pick (.t 12) (.c (.bool true)) (.t 14)⟩,
      ⟨some 16, none, .mov (.t 15)⟩,
      ⟨some 17, some (16, false), .faddr 1 (.t 3)⟩,
      ⟨some 18, some (16, false), .load 1 false (.t 17)⟩,
      ⟨some 19, some (16, false), .lenS (.t 18)⟩,
      ⟨some 20, some (16, false), .bin .gtr (.t 19) (.c (.int .i64 300))⟩,
      ⟨some 21, none, .pick (.t 16) (.c (.bool true)) (.t 20)⟩,
      ⟨some 22, none, .mov (.t 21)⟩,
      ⟨some 23, some (22, false), .faddr 2 (.t 3)⟩,
      ⟨some 24, some (22, false), .faddr 2 (.t 23)⟩,
      ⟨some 25, some (22, false), .load 1 false (.t 24)⟩,
      ⟨some 26, some (22, false), .lenS (.t 25)⟩,
      ⟨some 27, some (22, false), .bin .gtr (.t 26) (.c (.int .i64 300))⟩,
      ⟨some 28, none, .pick (.t 22) (.c (.bool true)) (.t 27)⟩])
     (.cond (.t 28)
      (.seq
       (.reg [⟨some 6, none, .mov (.c (.int .i64 (-1)))⟩])
       .ret)
      .skip))
    (.seq
     (.seq
      (.reg [⟨some 7, none, .mov (.c (.int .i64 0))⟩])
      (.block 0
       (.loop [1, 2, 3, 7]
        c22b0)))
     (.seq
      (.reg [⟨some 47, none, .mov (.t 2)⟩,
       ⟨some 6, none, .mov (.t 47)⟩])
      .ret))))), none⟩
def k22 : List (List Nat) := [[1, 2, 3, 7]]
def o22 : List Nat := [1000032, 1000033, 1000034, 1000057, 1000061, 1000062, 1000079, 1000080, 1000081, 1000082, 1000083, 1000084, 1000086, 1000087, 1000094, 1000097, 1000098, 1000103, 3000000]
/-- tracebook/syntax.Same -/
def c23 : AFn := ⟨2, 17, [.t 4],
 (.seq
  (.reg [⟨some 2, none, .box (.t 0)⟩,
   ⟨some 3, none, .box (.t 1)⟩,
   ⟨some 4, none, .mov (.c (.bool false))⟩])
  (.seq
   (.reg [⟨some 5, none, .faddr 0 (.t 2)⟩,
    ⟨some 6, none, .load 1 false (.t 5)⟩,
    ⟨some 7, none, .faddr 0 (.t 3)⟩,
    ⟨some 8, none, .load 1 false (.t 7)⟩,
    ⟨some 9, none, .bin .eql (.t 6) (.t 8)⟩,
    ⟨some 10, none, .mov (.t 9)⟩,
    ⟨some 11, some (10, true), .faddr 1 (.t 2)⟩,
    ⟨some 12, some (10, true), .load 1 false (.t 11)⟩,
    ⟨some 13, some (10, true), .faddr 1 (.t 3)⟩,
    ⟨some 14, some (10, true), .load 1 false (.t 13)⟩,
    ⟨some 15, some (10, true), .call false 50 [(.t 12), (.t 14), (.c (.fn 51 []))]⟩,
    ⟨some 16, none, .pick (.t 10) (.t 15) (.c (.bool false))⟩,
    ⟨some 4, none, .mov (.t 16)⟩])
   .ret)), none⟩
def k23 : List (List Nat) := []
def o23 : List Nat := [1000032, 1000033, 1000034, 1000057, 1000061, 1000062, 1000079, 1000080, 1000081, 1000082, 1000083, 1000084, 1000086, 1000087, 1000094, 1000097, 1000098, 1000103, 3000000]
def c24b0 : AC := (.seq
        (.seq
         (.reg [⟨some 20, none, .mov (.t 5)⟩,
          ⟨some 21, none, .faddr 1 (.t 2)⟩,
          ⟨some 22, none, .load 1 false (.t 21)⟩,
          ⟨some 23, none, .len (.t 22)⟩,
          ⟨some 24, none, .bin .lss (.t 20) (.t 23)⟩])
         (.cond (.t 24)
          .skip
          (.exit 0)))
        (.seq
         (.block 1
          (.seq
           (.reg [⟨some 27, none, .faddr 1 (.t 2)⟩,
            ⟨some 28, none, .load 1 false (.t 27)⟩,
            ⟨some 29, none, .mov (.t 5)⟩,
            ⟨some 30, none, .iaddr (.slice 13) (.t 28) (.t 29)⟩,
            ⟨some 31, none, .load 13 true (.t 30)⟩,
            ⟨some 32, none, .faddr 1 (.t 3)⟩,
            ⟨some 33, none, .load 1 false (.t 32)⟩,
            ⟨some 34, none, .mov (.t 5)⟩,
            ⟨some 35, none, .iaddr (.slice 13) (.t 33) (.t 34)⟩,
            ⟨some 36, none, .load 13 true (.t 35)⟩,
            ⟨some 37, none, .call false 52 [(.t 31), (.t 36)]⟩,
            ⟨some 38, none, .un .not (.t 37)⟩])
           (.cond (.t 38)
            (.seq
             (.reg [⟨some 4, none, .mov (.c (.bool false))⟩])
             .ret)
            .skip)))
         (.reg [⟨some 25, none, .mov (.t 5)⟩,
          ⟨some 26, none, .bin .add (.t 25) (.c (.int .i64 1))⟩,
          ⟨some 5, none, .mov (.t 26)⟩])))
/-- tracebook/tracebookref36.Same -/
def c24 : AFn := ⟨2, 39, [.t 4],
 (.seq
  (.reg [⟨some 2, none, .box (.t 0)⟩,
   ⟨some 3, none, .box (.t 1)⟩,
   ⟨some 4, none, .mov (.c (.bool false))⟩])
  (.seq
   (.seq
    (.reg [⟨some 6, none, .faddr 0 (.t 2)⟩,
     ⟨some 7, none, .load 1 false (.t 6)⟩,
     ⟨some 8, none, .faddr 0 (.t 3)⟩,
     ⟨some 9, none, .load 1 false (.t 8)⟩,
     ⟨some 10, none, .bin .neq (.t 7) (.t 9)⟩,
     ⟨some 11, none, .mov (.t 10)⟩,
     ⟨some 12, some (11, false), .faddr 1 (.t 2)⟩,
     ⟨some 13, some (11, false), .load 1 false (.t 12)⟩,
     ⟨some 14, some (11, false), .len (.t 13)⟩,
     ⟨some 15, some (11, false), .faddr 1 (.t 3)⟩,
     ⟨some 16, some (11, false), .load 1 false (.t 15)⟩,
     ⟨some 17, some (11, false), .len (.t 16)⟩,
     ⟨some 18, some (11, false), .bin .neq (.t 14) (.t 17)⟩,
     ⟨some 19, none, .pick (.t 11) (.c (.bool true)) (.t 18)⟩])
    (.cond (.t 19)
     (.seq
      (.reg [⟨some 4, none, .mov (.c (.bool false))⟩])
      .ret)
     .skip))
   (.seq
    (.seq
     (.reg [⟨some 5, none, .mov (.c (.int .i64 0))⟩])
     (.block 0
      (.loop [2, 3, 5]
       c24b0)))
    (.seq
     (.reg [⟨some 4, none, .mov (.c (.bool true))⟩])
     .ret)))), none⟩
def k24 : List (List Nat) := [[2, 3, 5]]
def o24 : List Nat := [1000032, 1000033, 1000034, 1000057, 1000061, 1000062, 1000079, 1000080, 1000081, 1000082, 1000083, 1000084, 1000086, 1000087, 1000094, 1000097, 1000098, 1000103, 3000000]
def c25b0 : AC := (.seq
        (.seq
         (.reg [⟨some 9, none, .mov (.t 6)⟩,
          ⟨some 10, none, .mov (.t 1)⟩,
          ⟨some 11, none, .bin .lss (.t 9) (.t 10)⟩])
         (.cond (.t 11)
          .skip
          (.exit 0)))
        (.seq
         (.block 1
          (.reg [⟨some 14, none, .faddr 5 (.t 5)⟩,
           ⟨some 15, none, .load 1 false (.t 14)⟩,
           ⟨some 16, none, .mov (.t 6)⟩,
           ⟨some 17, none, .build [(.int .i64 0), (.int .i64 0), (.str [])] [(0, 1, (.c (.int .i64 2))), (1, 1, (.t 16))]⟩,
           ⟨some 18, none, .build [(.int .i64 0), (.str []), (.int .i64 0), (.int .i64 0), (.str []), .nilS] [(0, 1, (.c (.int .i64 1))), (2, 3, (.t 17))]⟩,
           ⟨some 19, none, .bslice false 6 [(.int .i64 0), (.str []), (.int .i64 0), (.int .i64 0), (.str []), .nilS] 1 [(0, (.t 18))]⟩,
           ⟨some 20, none, .append 6 80 (.t 15) (.t 19)⟩,
           ⟨some 21, none, .faddr 5 (.t 5)⟩,
           ⟨none, none, .store 1 (.t 21) (.t 20)⟩]))
         (.reg [⟨some 12, none, .mov (.t 6)⟩,
          ⟨some 13, none, .bin .add (.t 12) (.c (.int .i64 1))⟩,
          ⟨some 6, none, .mov (.t 13)⟩])))
/-- tracebook/tracebooklaw36.call -/
def c25 : AFn := ⟨2, 23, [.c 4 6 true],
 (.seq
  (.reg [⟨some 4, none, .alloc [(.int .i64 0), (.str []), (.int .i64 0), (.int .i64 0), (.str []), .nilS]⟩])
  (.seq
   (.reg [⟨some 7, none, .mov (.t 0)⟩,
    ⟨some 8, none, .build [(.int .i64 0), (.str []), (.int .i64 0), (.int .i64 0), (.str []), .nilS] [(0, 1, (.c (.int .i64 16))), (1, 1, (.t 7))]⟩,
    ⟨some 5, none, .alloc [(.int .i64 0), (.str []), (.int .i64 0), (.int .i64 0), (.str []), .nilS]⟩,
    ⟨none, none, .store 6 (.t 5) (.t 8)⟩])
   (.seq
    (.seq
     (.reg [⟨some 6, none, .mov (.c (.int .i64 0))⟩])
     (.block 0
      (.loop [1, 4, 5, 6]
       c25b0)))
    (.seq
     (.reg [⟨some 22, none, .load 6 true (.t 5)⟩,
      ⟨none, none, .store 6 (.t 4) (.t 22)⟩])
     .ret)))), none⟩
def k25 : List (List Nat) := [[1, 4, 5, 6]]
def o25 : List Nat := [1000032, 1000033, 1000034, 1000057, 1000061, 1000062, 1000079, 1000080, 1000081, 1000082, 1000083, 1000084, 1000086, 1000087, 1000094, 1000097, 1000098, 1000103, 3000000]
def c26b0 : AC := (.seq
        (.reg [⟨some 13, none, .bin .lss (.t 12) (.t 11)⟩])
        (.seq
         (.cond (.t 13)
          .skip
          (.exit 0))
         (.seq
          (.block 1
           (.seq
            (.reg [⟨some 14, none, .iaddr (.slice 6) (.t 10) (.t 12)⟩,
             ⟨some 15, none, .load 6 true (.t 14)⟩,
             ⟨some 6, none, .alloc [(.int .i64 0), (.str []), (.int .i64 0), (.int .i64 0), (.str []), .nilS]⟩,
             ⟨none, none, .store 6 (.t 6) (.t 15)⟩])
            (.seq
             (.seq
              (.reg [⟨some 16, none, .mov (.t 1)⟩,
               ⟨some 17, none, .bin .gtr (.t 16) (.c (.int .i64 200))⟩])
              (.cond (.t 17)
               (.exit 0)
               .skip))
             (.reg [⟨some 18, none, .load 6 true (.t 6)⟩,
              ⟨some 19, none, .mov (.t 1)⟩,
              ⟨some 20, none, .call false 26 [(.t 18), (.t 19)]⟩,
              ⟨some 1, none, .mov (.t 20)⟩]))))
          (.reg [⟨some 21, none, .bin .add (.t 12) (.c (.int .i64 1))⟩,
           ⟨some 12, none, .mov (.t 21)⟩]))))
/-- tracebook/syntax.count -/
def c26 : AFn := ⟨2, 23, [.t 4],
 (.seq
  (.reg [⟨some 2, none, .box (.t 0)⟩,
   ⟨some 4, none, .mov (.c (.int .i64 0))⟩])
  (.seq
   (.reg [⟨some 7, none, .mov (.t 1)⟩,
    ⟨some 8, none, .bin .add (.t 7) (.c (.int .i64 1))⟩,
    ⟨some 1, none, .mov (.t 8)⟩])
   (.seq
    (.seq
     (.reg [⟨some 9, none, .faddr 5 (.t 2)⟩,
      ⟨some 10, none, .load 1 false (.t 9)⟩,
      ⟨some 11, none, .len (.t 10)⟩,
      ⟨some 12, none, .mov (.c (.int .i64 0))⟩])
     (.block 0
      (.loop [1, 10, 11, 12]
       c26b0)))
    (.seq
     (.reg [⟨some 22, none, .mov (.t 1)⟩,
      ⟨some 4, none, .mov (.t 22)⟩])
     .ret)))), none⟩
def k26 : List (List Nat) := [[1, 10, 11, 12]]
def o26 : List Nat := [1000032, 1000033, 1000034, 1000057, 1000061, 1000062, 1000079, 1000080, 1000081, 1000082, 1000083, 1000084, 1000086, 1000087, 1000094, 1000097, 1000098, 1000103, 3000000]
/-- tracebook/syntax.isDeeper -/
def c27 : AFn := ⟨2, 11, [.t 4],
 (.seq
  (.reg [⟨some 2, none, .box (.t 0)⟩,
   ⟨some 3, none, .box (.t 1)⟩,
   ⟨some 4, none, .mov (.c (.bool false))⟩])
  (.seq
   (.seq
    (.reg [⟨some 5, none, .load 1 false (.t 3)⟩,
     ⟨some 6, none, .bin .eql (.t 5) (.c (.int .i64 0))⟩])
    (.cond (.t 6)
     (.seq
      (.reg [⟨some 4, none, .mov (.c (.bool true))⟩])
      .ret)
     .skip))
   (.seq
    (.reg [⟨some 7, none, .faddr 5 (.t 2)⟩,
     ⟨some 8, none, .load 1 false (.t 7)⟩,
     ⟨some 9, none, .mkfn 54 [(.t 3)]⟩,
     ⟨some 10, none, .call false 53 [(.t 8), (.t 9)]⟩,
     ⟨some 4, none, .mov (.t 10)⟩])
    .ret))), none⟩
def k27 : List (List Nat) := []
def o27 : List Nat := [1000032, 1000033, 1000034, 1000057, 1000061, 1000062, 1000079, 1000080, 1000081, 1000082, 1000083, 1000084, 1000086, 1000087, 1000094, 1000097, 1000098, 1000103, 3000000]
def c28b0 : AC := (.seq
        (.reg [⟨some 16, none, .bin .lss (.t 15) (.t 14)⟩])
        (.seq
         (.cond (.t 16)
          .skip
          (.exit 0))
         (.seq
          (.block 1
           (.seq
            (.reg [⟨some 17, none, .iaddr (.slice 6) (.t 13) (.t 15)⟩,
             ⟨some 18, none, .load 6 true (.t 17)⟩,
             ⟨some 5, none, .alloc [(.int .i64 0), (.str []), (.int .i64 0), (.int .i64 0), (.str []), .nilS]⟩,
             ⟨none, none, .store 6 (.t 5) (.t 18)⟩])
            (.seq
             (.reg [⟨some 19, none, .load 6 true (.t 5)⟩,
              ⟨some 20, none, .call false 28 [(.t 19)]⟩,
              ⟨some 6, none, .mov (.t 20)⟩])
             (.seq
              (.reg [⟨some 21, none, .mov (.t 6)⟩,
               ⟨some 22, none, .bin .neq (.t 21) (.c (.int .i64 0))⟩])
              (.cond (.t 22)
               (.seq
                (.reg [⟨some 23, none, .mov (.t 6)⟩,
                 ⟨some 2, none, .mov (.t 23)⟩])
                .ret)
               .skip)))))
          (.reg [⟨some 24, none, .bin .add (.t 15) (.c (.int .i64 1))⟩,
           ⟨some 15, none, .mov (.t 24)⟩]))))
/-- tracebook/syntax.nodes -/
def c28 : AFn := ⟨1, 25, [.t 2],
 (.seq
  (.reg [⟨some 1, none, .box (.t 0)⟩,
   ⟨some 2, none, .mov (.c (.int .i64 0))⟩])
  (.seq
   (.seq
    (.reg [⟨some 7, none, .load 6 true (.t 1)⟩,
     ⟨some 8, none, .call false 55 [(.t 7)]⟩,
     ⟨some 3, none, .mov (.t 8)⟩])
    (.seq
     (.reg [⟨some 9, none, .mov (.t 3)⟩,
      ⟨some 10, none, .bin .neq (.t 9) (.c (.int .i64 0))⟩])
     (.cond (.t 10)
      (.seq
       (.reg [⟨some 11, none, .mov (.t 3)⟩,
        ⟨some 2, none, .mov (.t 11)⟩])
       .ret)
      .skip)))
   (.seq
    (.seq
     (.reg [⟨some 12, none, .faddr 5 (.t 1)⟩,
      ⟨some 13, none, .load 1 false (.t 12)⟩,
      ⟨some 14, none, .len (.t 13)⟩,
      ⟨some 15, none, .mov (.c (.int .i64 0))⟩])
     (.block 0
      (.loop [13, 14, 15]
       c28b0)))
    (.seq
     (.reg [⟨some 2, none, .mov (.c (.int .i64 0))⟩])
     .ret)))), none⟩
def k28 : List (List Nat) := [[13, 14, 15]]
def o28 : List Nat := [1000032, 1000033, 1000034, 1000057, 1000061, 1000062, 1000079, 1000080, 1000081, 1000082, 1000083, 1000084, 1000086, 1000087, 1000094, 1000097, 1000098, 1000103, 3000000]
def c29b0 : AC := (.seq
        (.seq
         (.reg [⟨some 7, none, .mov (.t 6)⟩,
          ⟨some 8, none, .faddr 5 (.t 2)⟩,
          ⟨some 9, none, .load 1 false (.t 8)⟩,
          ⟨some 10, none, .len (.t 9)⟩,
          ⟨some 11, none, .bin .lss (.t 7) (.t 10)⟩,
          ⟨some 12, none, .mov (.t 11)⟩,
          ⟨some 13, some (12, true), .mov (.t 5)⟩,
          ⟨some 14, some (12, true), .mov (.t 1)⟩,
          ⟨some 15, some (12, true), .bin .leq (.t 13) (.t 14)⟩,
          ⟨some 16, none, .pick (.t 12) (.t 15) (.c (.bool false))⟩])
         (.cond (.t 16)
          .skip
          (.exit 0)))
        (.seq
         (.block 1
          (.reg [⟨some 19, none, .mov (.t 5)⟩,
           ⟨some 20, none, .faddr 5 (.t 2)⟩,
           ⟨some 21, none, .load 1 false (.t 20)⟩,
           ⟨some 22, none, .mov (.t 6)⟩,
           ⟨some 23, none, .iaddr (.slice 6) (.t 21) (.t 22)⟩,
           ⟨some 24, none, .load 6 true (.t 23)⟩,
           ⟨some 25, none, .mov (.t 1)⟩,
           ⟨some 26, none, .mov (.t 5)⟩,
           ⟨some 27, none, .bin .sub (.t 25) (.t 26)⟩,
           ⟨some 28, none, .call false 29 [(.t 24), (.t 27)]⟩,
           ⟨some 29, none, .bin .add (.t 19) (.t 28)⟩,
           ⟨some 5, none, .mov (.t 29)⟩]))
         (.reg [⟨some 17, none, .mov (.t 6)⟩,
          ⟨some 18, none, .bin .add (.t 17) (.c (.int .i64 1))⟩,
          ⟨some 6, none, .mov (.t 18)⟩])))
/-- tracebook/tracebookref36.Count -/
def c29 : AFn := ⟨2, 31, [.t 4],
 (.seq
  (.reg [⟨some 2, none, .box (.t 0)⟩,
   ⟨some 4, none, .mov (.c (.int .i64 0))⟩])
  (.seq
   (.reg [⟨some 5, none, .mov (.c (.int .i64 1))⟩])
   (.seq
    (.seq
     (.reg [⟨some 6, none, .mov (.c (.int .i64 0))⟩])
     (.block 0
      (.loop [1, 2, 5, 6]
       c29b0)))
    (.seq
     (.reg [⟨some 30, none, .mov (.t 5)⟩,
      ⟨some 4, none, .mov (.t 30)⟩])
     .ret)))), none⟩
def k29 : List (List Nat) := [[1, 2, 5, 6]]
def o29 : List Nat := [1000032, 1000033, 1000034, 1000057, 1000061, 1000062, 1000079, 1000080, 1000081, 1000082, 1000083, 1000084, 1000086, 1000087, 1000094, 1000097, 1000098, 1000103, 3000000]
def c30b0 : AC := (.seq
        (.seq
         (.reg [⟨some 5, none, .mov (.t 4)⟩,
          ⟨some 6, none, .faddr 5 (.t 1)⟩,
          ⟨some 7, none, .load 1 false (.t 6)⟩,
          ⟨some 8, none, .len (.t 7)⟩,
          ⟨some 9, none, .bin .lss (.t 5) (.t 8)⟩])
         (.cond (.t 9)
          .skip
          (.exit 0)))
        (.seq
         (.block 1
          (.reg [⟨some 12, none, .mov (.t 3)⟩,
           ⟨some 13, none, .faddr 5 (.t 1)⟩,
           ⟨some 14, none, .load 1 false (.t 13)⟩,
           ⟨some 15, none, .mov (.t 4)⟩,
           ⟨some 16, none, .iaddr (.slice 6) (.t 14) (.t 15)⟩,
           ⟨some 17, none, .load 6 true (.t 16)⟩,
           ⟨some 18, none, .call false 30 [(.t 17)]⟩,
           ⟨some 19, none, .max [(.t 12), (.t 18)]⟩,
           ⟨some 3, none, .mov (.t 19)⟩]))
         (.reg [⟨some 10, none, .mov (.t 4)⟩,
          ⟨some 11, none, .bin .add (.t 10) (.c (.int .i64 1))⟩,
          ⟨some 4, none, .mov (.t 11)⟩])))
/-- tracebook/tracebookref36.levels -/
def c30 : AFn := ⟨1, 22, [.t 2],
 (.seq
  (.reg [⟨some 1, none, .box (.t 0)⟩,
   ⟨some 2, none, .mov (.c (.int .i64 0))⟩])
  (.seq
   (.reg [⟨some 3, none, .mov (.c (.int .i64 0))⟩])
   (.seq
    (.seq
     (.reg [⟨some 4, none, .mov (.c (.int .i64 0))⟩])
     (.block 0
      (.loop [1, 3, 4]
       c30b0)))
    (.seq
     (.reg [⟨some 20, none, .mov (.t 3)⟩,
      ⟨some 21, none, .bin .add (.t 20) (.c (.int .i64 1))⟩,
      ⟨some 2, none, .mov (.t 21)⟩])
     .ret)))), none⟩
def k30 : List (List Nat) := [[1, 3, 4]]
def o30 : List Nat := [1000032, 1000033, 1000034, 1000057, 1000061, 1000062, 1000079, 1000080, 1000081, 1000082, 1000083, 1000084, 1000086, 1000087, 1000094, 1000097, 1000098, 1000103, 3000000]
def c31b0 : AC := (.seq
        (.seq
         (.reg [⟨some 7, none, .mov (.t 4)⟩,
          ⟨some 8, none, .faddr 5 (.t 1)⟩,
          ⟨some 9, none, .load 1 false (.t 8)⟩,
          ⟨some 10, none, .len (.t 9)⟩,
          ⟨some 11, none, .bin .lss (.t 7) (.t 10)⟩,
          ⟨some 12, none, .mov (.t 11)⟩,
          ⟨some 13, some (12, true), .mov (.t 3)⟩,
          ⟨some 14, some (12, true), .bin .eql (.t 13) (.c (.int .i64 0))⟩,
          ⟨some 15, none, .pick (.t 12) (.t 14) (.c (.bool false))⟩])
         (.cond (.t 15)
          .skip
          (.exit 0)))
        (.seq
         (.block 1
          (.reg [⟨some 18, none, .faddr 5 (.t 1)⟩,
           ⟨some 19, none, .load 1 false (.t 18)⟩,
           ⟨some 20, none, .mov (.t 4)⟩,
           ⟨some 21, none, .iaddr (.slice 6) (.t 19) (.t 20)⟩,
           ⟨some 22, none, .load 6 true (.t 21)⟩,
           ⟨some 23, none, .call false 31 [(.t 22)]⟩,
           ⟨some 3, none, .mov (.t 23)⟩]))
         (.reg [⟨some 16, none, .mov (.t 4)⟩,
          ⟨some 17, none, .bin .add (.t 16) (.c (.int .i64 1))⟩,
          ⟨some 4, none, .mov (.t 17)⟩])))
/-- tracebook/tracebookref36.nodes -/
def c31 : AFn := ⟨1, 25, [.t 2],
 (.seq
  (.reg [⟨some 1, none, .box (.t 0)⟩,
   ⟨some 2, none, .mov (.c (.int .i64 0))⟩])
  (.seq
   (.reg [⟨some 5, none, .load 6 true (.t 1)⟩,
    ⟨some 6, none, .call false 56 [(.t 5)]⟩,
    ⟨some 3, none, .mov (.t 6)⟩])
   (.seq
    (.seq
     (.reg [⟨some 4, none, .mov (.c (.int .i64 0))⟩])
     (.block 0
      (.loop [1, 3, 4]
       c31b0)))
    (.seq
     (.reg [⟨some 24, none, .mov (.t 3)⟩,
      ⟨some 2, none, .mov (.t 24)⟩])
     .ret)))), none⟩
def k31 : List (List Nat) := [[1, 3, 4]]
def o31 : List Nat := [1000032, 1000033, 1000034, 1000057, 1000061, 1000062, 1000079, 1000080, 1000081, 1000082, 1000083, 1000084, 1000086, 1000087, 1000094, 1000097, 1000098, 1000103, 3000000]
def c32b0 : AC := (.seq
        (.reg [⟨some 19, none, .bin .lss (.t 18) (.t 17)⟩])
        (.seq
         (.cond (.t 19)
          .skip
          (.exit 0))
         (.seq
          (.block 1
           (.seq
            (.reg [⟨some 20, none, .iaddr (.slice 6) (.t 16) (.t 18)⟩,
             ⟨some 21, none, .load 6 true (.t 20)⟩,
             ⟨some 6, none, .alloc [(.int .i64 0), (.str []), (.int .i64 0), (.int .i64 0), (.str []), .nilS]⟩,
             ⟨none, none, .store 6 (.t 6) (.t 21)⟩])
            (.reg [⟨some 22, none, .mov (.t 0)⟩,
             ⟨some 23, none, .load 6 true (.t 6)⟩,
             ⟨some 24, none, .callS 32 [(.t 22), (.t 23)]⟩,
             ⟨some 0, none, .mov (.t 24)⟩])))
          (.reg [⟨some 25, none, .bin .add (.t 18) (.c (.int .i64 1))⟩,
           ⟨some 18, none, .mov (.t 25)⟩]))))
/-- tracebook/syntax.fields -/
def c32 : AFn := ⟨2, 27, [.t 4],
 (.seq
  (.reg [⟨some 3, none, .box (.t 1)⟩,
   ⟨some 4, none, .nilv 1⟩])
  (.seq
   (.seq
    (.reg [⟨some 7, none, .faddr 0 (.t 3)⟩,
     ⟨some 8, none, .load 1 false (.t 7)⟩,
     ⟨some 9, none, .bin .eql (.t 8) (.c (.int .i64 2))⟩])
    (.cond (.t 9)
     (.reg [⟨some 10, none, .mov (.t 0)⟩,
      ⟨some 11, none, .faddr 1 (.t 3)⟩,
      ⟨some 12, none, .load 1 false (.t 11)⟩,
      ⟨some 13, none, .bslice false 1 [(.str [])] 1 [(0, (.t 12))]⟩,
      ⟨some 14, none, .append 1 16 (.t 10) (.t 13)⟩,
      ⟨some 0, none, .mov (.t 14)⟩])
     .skip))
   (.seq
    (.seq
     (.reg [⟨some 15, none, .faddr 5 (.t 3)⟩,
      ⟨some 16, none, .load 1 false (.t 15)⟩,
      ⟨some 17, none, .len (.t 16)⟩,
      ⟨some 18, none, .mov (.c (.int .i64 0))⟩])
     (.block 0
      (.loop [0, 16, 17, 18]
       c32b0)))
    (.seq
     (.reg [⟨some 26, none, .mov (.t 0)⟩,
      ⟨some 4, none, .mov (.t 26)⟩])
     .ret)))), none⟩
def k32 : List (List Nat) := [[0, 16, 17, 18]]
def o32 : List Nat := [1000032, 1000033, 1000034, 1000057, 1000061, 1000062, 1000079, 1000080, 1000081, 1000082, 1000083, 1000084, 1000086, 1000087, 1000094, 1000097, 1000098, 1000103, 3000000]
/-- slices.Sort[[]string,string] -/
def c33 : AFn := ⟨1, 11, [],
 (.seq
  (.reg [⟨some 3, none, .mov (.t 0)⟩,
   ⟨some 4, none, .len (.t 3)⟩,
   ⟨some 2, none, .mov (.t 4)⟩])
  (.reg [⟨some 5, none, .mov (.t 0)⟩,
   ⟨some 6, none, .mov (.t 2)⟩,
   ⟨some 7, none, .mov (.t 2)⟩,
   ⟨some 8, none, .conv (.int .u64) (.t 7)⟩,
   ⟨some 9, none, .call true 58 [(.t 8)]⟩,
   ⟨some 10, none, .callS 57 [(.t 5), (.c (.int .i64 0)), (.t 6), (.t 9)]⟩])), none⟩
def k33 : List (List Nat) := []
def o33 : List Nat := [1000032, 1000033, 1000034, 1000057, 1000061, 1000062, 1000079, 1000080, 1000081, 1000082, 1000083, 1000084, 1000086, 1000087, 1000094, 1000097, 1000098, 1000103, 3000000, 9]
def c34b0 : AC := (.seq
                  (.seq
                   (.reg [⟨some 29, none, .mov (.t 5)⟩,
                    ⟨some 30, none, .mov (.t 4)⟩,
                    ⟨some 31, none, .len (.t 30)⟩,
                    ⟨some 32, none, .bin .lss (.t 29) (.t 31)⟩])
                   (.cond (.t 32)
                    .skip
                    (.exit 2)))
                  (.seq
                   (.block 3
                    (.seq
                     (.reg [⟨some 35, none, .mov (.t 4)⟩,
                      ⟨some 36, none, .mov (.t 5)⟩,
                      ⟨some 37, none, .iaddr (.slice 1) (.t 35) (.t 36)⟩,
                      ⟨some 38, none, .load 1 false (.t 37)⟩,
                      ⟨some 39, none, .mov (.t 4)⟩,
                      ⟨some 40, none, .mov (.t 5)⟩,
                      ⟨some 41, none, .bin .sub (.t 40) (.c (.int .i64 1))⟩,
                      ⟨some 42, none, .iaddr (.slice 1) (.t 39) (.t 41)⟩,
                      ⟨some 43, none, .load 1 false (.t 42)⟩,
                      ⟨some 44, none, .bin .neq (.t 38) (.t 43)⟩])
                     (.cond (.t 44)
                      (.seq
                       (.reg [⟨some 45, none, .mov (.t 0)⟩,
                        ⟨some 46, none, .mov (.t 3)⟩,
                        ⟨some 47, none, .mov (.t 4)⟩,
                        ⟨some 48, none, .mov (.t 5)⟩,
                        ⟨some 49, none, .iaddr (.slice 1) (.t 47) (.t 48)⟩,
                        ⟨some 50, none, .load 1 false (.t 49)⟩,
                        ⟨some 51, none, .iaddr (.slice 1) (.t 45) (.t 46)⟩,
                        ⟨none, none, .store 1 (.t 51) (.t 50)⟩])
                       (.reg [⟨some 52, none, .mov (.t 3)⟩,
                        ⟨some 53, none, .bin .add (.t 52) (.c (.int .i64 1))⟩,
                        ⟨some 3, none, .mov (.t 53)⟩]))
                      .skip)))
                   (.reg [⟨some 33, none, .mov (.t 5)⟩,
                    ⟨some 34, none, .bin .add (.t 33) (.c (.int .i64 1))⟩,
                    ⟨some 5, none, .mov (.t 34)⟩])))
def c34b1 : AC := (.seq
        (.seq
         (.reg [⟨some 10, none, .mov (.t 3)⟩,
          ⟨some 11, none, .mov (.t 0)⟩,
          ⟨some 12, none, .len (.t 11)⟩,
          ⟨some 13, none, .bin .lss (.t 10) (.t 12)⟩])
         (.cond (.t 13)
          .skip
          (.exit 0)))
        (.seq
         (.block 1
          (.seq
           (.reg [⟨some 16, none, .mov (.t 0)⟩,
            ⟨some 17, none, .mov (.t 3)⟩,
            ⟨some 18, none, .iaddr (.slice 1) (.t 16) (.t 17)⟩,
            ⟨some 19, none, .load 1 false (.t 18)⟩,
            ⟨some 20, none, .mov (.t 0)⟩,
            ⟨some 21, none, .mov (.t 3)⟩,
            ⟨some 22, none, .bin .sub (.t 21) (.c (.int .i64 1))⟩,
            ⟨some 23, none, .iaddr (.slice 1) (.t 20) (.t 22)⟩,
            ⟨some 24, none, .load 1 false (.t 23)⟩,
            ⟨some 25, none, .bin .eql (.t 19) (.t 24)⟩])
           (.cond (.t 25)
            (.seq
             (.reg [⟨some 26, none, .mov (.t 0)⟩,
              ⟨some 27, none, .mov (.t 3)⟩,
              ⟨some 28, none, .slc (.slice 1) (.t 26) (some (.t 27)) none none⟩,
              ⟨some 4, none, .mov (.t 28)⟩])
             (.seq
              (.seq
               (.reg [⟨some 5, none, .mov (.c (.int .i64 1))⟩])
               (.block 2
                (.loop [0, 3, 4, 5]
                 c34b0)))
              (.seq
               (.reg [⟨some 54, none, .mov (.t 0)⟩,
                ⟨some 55, none, .mov (.t 3)⟩,
                ⟨some 56, none, .slc (.slice 1) (.t 54) (some (.t 55)) none none⟩,
                ⟨none, none, .clr 1 [(.str [])] (.t 56)⟩])
               (.seq
                (.reg [⟨some 57, none, .mov (.t 0)⟩,
                 ⟨some 58, none, .mov (.t 3)⟩,
                 ⟨some 59, none, .slc (.slice 1) (.t 57) none (some (.t 58)) none⟩,
                 ⟨some 2, none, .mov (.t 59)⟩])
                .ret))))
            .skip)))
         (.reg [⟨some 14, none, .mov (.t 3)⟩,
          ⟨some 15, none, .bin .add (.t 14) (.c (.int .i64 1))⟩,
          ⟨some 3, none, .mov (.t 15)⟩])))
/-- slices.Compact[[]string,string] -/
def c34 : AFn := ⟨1, 61, [.t 2],
 (.seq
  (.reg [⟨some 2, none, .nilv 1⟩])
  (.seq
   (.seq
    (.reg [⟨some 6, none, .mov (.t 0)⟩,
     ⟨some 7, none, .len (.t 6)⟩,
     ⟨some 8, none, .bin .lss (.t 7) (.c (.int .i64 2))⟩])
    (.cond (.t 8)
     (.seq
      (.reg [⟨some 9, none, .mov (.t 0)⟩,
       ⟨some 2, none, .mov (.t 9)⟩])
      .ret)
     .skip))
   (.seq
    (.seq
     (.reg [⟨some 3, none, .mov (.c (.int .i64 1))⟩])
     (.block 0
      (.loop [0, 3]
       c34b1)))
    (.seq
     (.reg [⟨some 60, none, .mov (.t 0)⟩,
      ⟨some 2, none, .mov (.t 60)⟩])
     .ret)))), none⟩
def k34 : List (List Nat) := [[0, 3], [0, 3, 4, 5]]
def o34 : List Nat := [1000032, 1000033, 1000034, 1000057, 1000061, 1000062, 1000079, 1000080, 1000081, 1000082, 1000083, 1000084, 1000086, 1000087, 1000094, 1000097, 1000098, 1000103, 3000000]
def c35b0 : AC := (.seq
        (.seq
         (.reg [⟨some 13, none, .mov (.t 5)⟩,
          ⟨some 14, none, .faddr 5 (.t 3)⟩,
          ⟨some 15, none, .load 1 false (.t 14)⟩,
          ⟨some 16, none, .len (.t 15)⟩,
          ⟨some 17, none, .bin .lss (.t 13) (.t 16)⟩])
         (.cond (.t 17)
          .skip
          (.exit 0)))
        (.seq
         (.block 1
          (.reg [⟨some 20, none, .mov (.t 0)⟩,
           ⟨some 21, none, .faddr 5 (.t 3)⟩,
           ⟨some 22, none, .load 1 false (.t 21)⟩,
           ⟨some 23, none, .mov (.t 5)⟩,
           ⟨some 24, none, .iaddr (.slice 6) (.t 22) (.t 23)⟩,
           ⟨some 25, none, .load 6 true (.t 24)⟩,
           ⟨some 26, none, .call false 35 [(.t 20), (.t 25)]⟩,
           ⟨some 0, none, .mov (.t 26)⟩]))
         (.reg [⟨some 18, none, .mov (.t 5)⟩,
          ⟨some 19, none, .bin .add (.t 18) (.c (.int .i64 1))⟩,
          ⟨some 5, none, .mov (.t 19)⟩])))
/-- tracebook/tracebookref36.fields -/
def c35 : AFn := ⟨2, 28, [.t 4],
 (.seq
  (.reg [⟨some 3, none, .box (.t 1)⟩,
   ⟨some 4, none, .nilv 1⟩])
  (.seq
   (.seq
    (.reg [⟨some 6, none, .faddr 0 (.t 3)⟩,
     ⟨some 7, none, .load 1 false (.t 6)⟩,
     ⟨some 8, none, .bin .eql (.t 7) (.c (.int .i64 2))⟩])
    (.cond (.t 8)
     (.reg [⟨some 9, none, .mov (.t 0)⟩,
      ⟨some 10, none, .faddr 1 (.t 3)⟩,
      ⟨some 11, none, .load 1 false (.t 10)⟩,
      ⟨some 12, none, .call false 59 [(.t 9), (.t 11)]⟩,
      ⟨some 0, none, .mov (.t 12)⟩])
     .skip))
   (.seq
    (.seq
     (.reg [⟨some 5, none, .mov (.c (.int .i64 0))⟩])
     (.block 0
      (.loop [0, 3, 5]
       c35b0)))
    (.seq
     (.reg [⟨some 27, none, .mov (.t 0)⟩,
      ⟨some 4, none, .mov (.t 27)⟩])
     .ret)))), none⟩
def k35 : List (List Nat) := [[0, 3, 5]]
def o35 : List Nat := [1000032, 1000033, 1000034, 1000057, 1000061, 1000062, 1000079, 1000080, 1000081, 1000082, 1000083, 1000084, 1000086, 1000087, 1000094, 1000097, 1000098, 1000103, 3000000]
/-- tracebook/syntax.isEmpty -/
def c36 : AFn := ⟨1, 57, [.t 2],
 (.seq
  (.reg [⟨some 1, none, .box (.t 0)⟩,
   ⟨some 2, none, .mov (.c (.bool false))⟩])
  (.seq
   (.reg [⟨some 4, none, .faddr 1 (.t 1)⟩,
    ⟨some 5, none, .faddr 0 (.t 4)⟩,
    ⟨some 6, none, .load 1 false (.t 5)⟩,
    ⟨some 7, none, .bin .eql (.t 6) (.c (.int .i64 0))⟩,
    ⟨some 8, none, .mov (.t 7)⟩,
    ⟨some 9, some (8, true), .faddr 1 (.t 1)⟩,
    ⟨some 10, some (8, true), .faddr 1 (.t 9)⟩,
    ⟨some 11, some (8, true), .load 1 false (.t 10)⟩,
    ⟨some 12, some (8, true), .bin .eql (.t 11) (.c (.str []))⟩,
    ⟨some 13, none, .pick (.t 8) (.t 12) (.c (.bool false))⟩,
    ⟨some 14, none, .mov (.t 13)⟩,
    ⟨some 15, some (14, true), .faddr 1 (.t 1)⟩,
    ⟨some 16, some (14, true), .faddr 2 (.t 15)⟩,
    ⟨some 17, some (14, true), .load 3 true (.t 16)⟩,
    ⟨some 18, some (14, true), .build [(.int .i64 0), (.int .i64 0), (.str [])] []⟩,
    ⟨some 19, some (14, true), .beqA false [.i, .i, .s] (.t 17) (.t 18)⟩,
    ⟨some 20, none, .pick (.t 14) (.t 19) (.c (.bool false))⟩,
    ⟨some 21, none, .mov (.t 20)⟩,
    ⟨some 22, some (21, true), .faddr 1 (.t 1)⟩,
    ⟨some 23, some (21, true), .faddr 5 (.t 22)⟩,
    ⟨some 24, some (21, true), .load 1 false (.t 23)⟩,
    ⟨some 25, some (21, true), .len (.t 24)⟩,
    ⟨some 26, some (21, true), .bin .eql (.t 25) (.c (.int .i64 0))⟩,
    ⟨some 27, none, .pick (.t 21) (.t 26) (.c (.bool false))⟩,
    ⟨some 3, none, .mov (.t 27)⟩])
   (.seq
    (.reg [⟨some 28, none, .mov (.t 3)⟩,
     ⟨some 29, none, .mov (.t 28)⟩,
     ⟨some 30, some (29, true), .faddr 11 (.t 1)⟩,
     ⟨some 31, some (29, true), .load 1 false (.t 30)⟩,
     ⟨some 32, some (29, true), .bin .eql (.t 31) (.c (.int .i64 0))⟩,
     ⟨some 33, none, .pick (.t 29) (.t 32) (.c (.bool false))⟩,
     ⟨some 34, none, .mov (.t 33)⟩,
     ⟨some 35, some (34, true), .faddr 12 (.t 1)⟩,
     ⟨some 36, some (34, true), .load 1 false (.t 35)⟩,
     ⟨some 37, some (34, true), .bin .eql (.t 36) (.c (.str []))⟩,
     ⟨some 38, none, .pick (.t 34) (.t 37) (.c (.bool false))⟩,
     ⟨some 39, none, .mov (.t 38)⟩,
     ⟨some 40, some (39, true), .faddr 7 (.t 1)⟩,
     ⟨some 41, some (39, true), .load 1 false (.t 40)⟩,
     ⟨some 42, some (39, true), .len (.t 41)⟩,
     ⟨some 43, some (39, true), .faddr 8 (.t 1)⟩,
     ⟨some 44, some (39, true), .load 1 false (.t 43)⟩,
     ⟨some 45, some (39, true), .len (.t 44)⟩,
     ⟨some 46, some (39, true), .bin .add (.t 42) (.t 45)⟩,
     ⟨some 47, some (39, true), .faddr 9 (.t 1)⟩,
     ⟨some 48, some (39, true), .load 1 false (.t 47)⟩,
     ⟨some 49, some (39, true), .len (.t 48)⟩,
     ⟨some 50, some (39, true), .bin .add (.t 46) (.t 49)⟩,
     ⟨some 51, some (39, true), .faddr 10 (.t 1)⟩,
     ⟨some 52, some (39, true), .load 1 false (.t 51)⟩,
     ⟨some 53, some (39, true), .len (.t 52)⟩,
     ⟨some 54, some (39, true), .bin .add (.t 50) (.t 53)⟩,
     ⟨some 55, some (39, true), .bin .eql (.t 54) (.c (.int .i64 0))⟩,
     ⟨some 56, none, .pick (.t 39) (.t 55) (.c (.bool false))⟩,
     ⟨some 2, none, .mov (.t 56)⟩])
    .ret))), none⟩
def k36 : List (List Nat) := []
def o36 : List Nat := [1000032, 1000033, 1000034, 1000057, 1000061, 1000062, 1000079, 1000080, 1000081, 1000082, 1000083, 1000084, 1000086, 1000087, 1000094, 1000097, 1000098, 1000103, 3000000]
/-- tracebook/syntax.unused -/
def c37 : AFn := ⟨1, 32, [.c 2 13 true],
 (.seq
  (.reg [⟨some 1, none, .box (.t 0)⟩,
   ⟨some 2, none, .alloc [(.int .i64 0), (.int .i64 0), (.str []), (.int .i64 0), (.int .i64 0), (.str []), .nilS, .nilS, .nilS, .nilS, .nilS, (.int .i64 0), (.str [])]⟩])
  (.seq
   (.seq
    (.reg [⟨some 3, none, .faddr 0 (.t 1)⟩,
     ⟨some 4, none, .load 1 false (.t 3)⟩])
    (.block 0
     (.seq
      (.reg [⟨some 6, none, .bin .eql (.t 4) (.c (.int .i64 1))⟩,
       ⟨some 5, none, .mov (.t 6)⟩])
      (.cond (.t 5)
       (.reg [⟨some 7, none, .build [(.int .i64 0), (.str []), (.int .i64 0), (.int .i64 0), (.str []), .nilS] []⟩,
        ⟨some 8, none, .faddr 1 (.t 1)⟩,
        ⟨none, none, .store 6 (.t 8) (.t 7)⟩])
       (.seq
        (.reg [⟨some 10, none, .bin .eql (.t 4) (.c (.int .i64 2))⟩,
         ⟨some 9, none, .mov (.t 10)⟩])
        (.cond (.t 9)
         (.reg [⟨some 11, none, .faddr 7 (.t 1)⟩,
          ⟨none, none, .store 1 (.t 11) (.c .nilS)⟩])
         (.seq
          (.reg [⟨some 13, none, .bin .eql (.t 4) (.c (.int .i64 3))⟩,
           ⟨some 12, none, .mov (.t 13)⟩])
          (.cond (.t 12)
           (.reg [⟨some 14, none, .faddr 8 (.t 1)⟩,
            ⟨none, none, .store 1 (.t 14) (.c .nilS)⟩,
            ⟨some 15, none, .faddr 9 (.t 1)⟩,
            ⟨none, none, .store 1 (.t 15) (.c .nilS)⟩])
           (.seq
            (.reg [⟨some 17, none, .bin .eql (.t 4) (.c (.int .i64 4))⟩,
             ⟨some 16, none, .mov (.t 17)⟩])
            (.cond (.t 16)
             (.reg [⟨some 18, none, .faddr 10 (.t 1)⟩,
              ⟨none, none, .store 1 (.t 18) (.c .nilS)⟩])
             (.seq
              (.reg [⟨some 20, none, .bin .eql (.t 4) (.c (.int .i64 5))⟩,
               ⟨some 19, none, .mov (.t 20)⟩])
              (.cond (.t 19)
               (.reg [⟨some 21, none, .faddr 11 (.t 1)⟩,
                ⟨none, none, .store 1 (.t 21) (.c (.int .i64 0))⟩])
               (.seq
                (.seq
                 (.reg [⟨some 23, none, .bin .eql (.t 4) (.c (.int .i64 6))⟩,
                  ⟨some 22, none, .mov (.t 23)⟩])
                 (.cond (.t 22)
                  .skip
                  (.seq
                   (.reg [⟨some 24, none, .bin .eql (.t 4) (.c (.int .i64 7))⟩,
                    ⟨some 22, none, .mov (.t 24)⟩])
                   (.cond (.t 22)
                    .skip
                    (.reg [⟨some 25, none, .bin .eql (.t 4) (.c (.int .i64 8))⟩,
                     ⟨some 22, none, .mov (.t 25)⟩])))))
                (.cond (.t 22)
                 (.reg [⟨some 26, none, .faddr 12 (.t 1)⟩,
                  ⟨none, none, .store 1 (.t 26) (.c (.str []))⟩,
                  ⟨some 27, none, .faddr 8 (.t 1)⟩,
                  ⟨none, none, .store 1 (.t 27) (.c .nilS)⟩])
                 (.seq
                  (.reg [⟨some 29, none, .bin .eql (.t 4) (.c (.int .i64 9))⟩,
                   ⟨some 28, none, .mov (.t 29)⟩])
                  (.cond (.t 28)
                   (.reg [⟨some 30, none, .faddr 8 (.t 1)⟩,
                    ⟨none, none, .store 1 (.t 30) (.c .nilS)⟩])
                   .skip))))))))))))))))
   (.seq
    (.reg [⟨some 31, none, .load 13 true (.t 1)⟩,
     ⟨none, none, .store 13 (.t 2) (.t 31)⟩])
    .ret))), none⟩
def k37 : List (List Nat) := []
def o37 : List Nat := [1000032, 1000033, 1000034, 1000057, 1000061, 1000062, 1000079, 1000080, 1000081, 1000082, 1000083, 1000084, 1000086, 1000087, 1000094, 1000097, 1000098, 1000103, 3000000]
def c38b0 : AC := (.seq
         (.reg [⟨some 19, none, .bin .lss (.t 18) (.t 17)⟩])
         (.seq
          (.cond (.t 19)
           .skip
           (.exit 0))
          (.seq
           (.block 1
            (.seq
             (.reg [⟨some 20, none, .iaddr (.slice 7) (.t 16) (.t 18)⟩,
              ⟨some 21, none, .load 7 true (.t 20)⟩,
              ⟨some 6, none, .alloc [(.int .i64 0), (.str []), (.int .i64 0), (.int .i64 0), (.str []), .nilS, (.str [])]⟩,
              ⟨none, none, .store 7 (.t 6) (.t 21)⟩])
             (.seq
              (.seq
               (.reg [⟨some 22, none, .faddr 0 (.t 6)⟩,
                ⟨some 23, none, .load 6 true (.t 22)⟩,
                ⟨some 24, none, .call false 11 [(.t 23)]⟩,
                ⟨some 7, none, .mov (.t 24)⟩])
               (.seq
                (.reg [⟨some 25, none, .mov (.t 7)⟩,
                 ⟨some 26, none, .bin .neq (.t 25) (.c (.int .i64 0))⟩])
                (.cond (.t 26)
                 (.seq
                  (.reg [⟨some 27, none, .mov (.t 7)⟩,
                   ⟨some 2, none, .mov (.t 27)⟩])
                  .ret)
                 .skip)))
              (.seq
               (.reg [⟨some 28, none, .mov (.t 4)⟩,
                ⟨some 29, none, .faddr 6 (.t 6)⟩,
                ⟨some 30, none, .load 1 false (.t 29)⟩,
                ⟨some 31, none, .callS 61 [(.t 28), (.t 30)]⟩,
                ⟨some 8, none, .mov (.t 31)⟩])
               (.seq
                (.reg [⟨some 32, none, .mov (.t 8)⟩,
                 ⟨some 33, none, .bin .neq (.t 32) (.c (.int .i64 0))⟩])
                (.cond (.t 33)
                 (.seq
                  (.reg [⟨some 34, none, .mov (.t 8)⟩,
                   ⟨some 2, none, .mov (.t 34)⟩])
                  .ret)
                 .skip))))))
           (.reg [⟨some 35, none, .bin .add (.t 18) (.c (.int .i64 1))⟩,
            ⟨some 18, none, .mov (.t 35)⟩]))))
/-- tracebook/syntax.items -/
def c38 : AFn := ⟨1, 36, [.t 2],
 (.seq
  (.reg [⟨some 2, none, .mov (.c (.int .i64 0))⟩])
  (.seq
   (.seq
    (.reg [⟨some 9, none, .mov (.t 0)⟩,
     ⟨some 10, none, .len (.t 9)⟩,
     ⟨some 11, none, .call false 60 [(.t 10), (.c (.int .i64 1))]⟩,
     ⟨some 3, none, .mov (.t 11)⟩])
    (.seq
     (.reg [⟨some 12, none, .mov (.t 3)⟩,
      ⟨some 13, none, .bin .neq (.t 12) (.c (.int .i64 0))⟩])
     (.cond (.t 13)
      (.seq
       (.reg [⟨some 14, none, .mov (.t 3)⟩,
        ⟨some 2, none, .mov (.t 14)⟩])
       .ret)
      .skip)))
   (.seq
    (.reg [⟨some 15, none, .mkmap none⟩,
     ⟨some 4, none, .mov (.t 15)⟩])
    (.seq
     (.seq
      (.reg [⟨some 16, none, .mov (.t 0)⟩,
       ⟨some 17, none, .len (.t 16)⟩,
       ⟨some 18, none, .mov (.c (.int .i64 0))⟩])
      (.block 0
       (.loop [4, 16, 17, 18]
        c38b0)))
     (.seq
      (.reg [⟨some 2, none, .mov (.c (.int .i64 0))⟩])
      .ret))))), none⟩
def k38 : List (List Nat) := [[4, 16, 17, 18]]
def o38 : List Nat := [1000032, 1000033, 1000034, 1000057, 1000061, 1000062, 1000079, 1000080, 1000081, 1000082, 1000083, 1000084, 1000086, 1000087, 1000094, 1000097, 1000098, 1000103, 3000000]
def c39b0 : AC := (.seq
           (.reg [⟨some 38, none, .bin .lss (.t 37) (.t 36)⟩])
           (.seq
            (.cond (.t 38)
             .skip
             (.exit 0))
            (.seq
             (.block 1
              (.seq
               (.reg [⟨some 39, none, .iaddr (.slice 3) (.t 35) (.t 37)⟩,
                ⟨some 40, none, .load 3 true (.t 39)⟩,
                ⟨some 6, none, .alloc [(.str []), (.str []), (.str [])]⟩,
                ⟨none, none, .store 3 (.t 6) (.t 40)⟩])
               (.seq
                (.seq
                 (.reg [⟨some 41, none, .load 3 true (.t 6)⟩,
                  ⟨some 42, none, .call false 63 [(.t 41)]⟩,
                  ⟨some 43, none, .un .not (.t 42)⟩])
                 (.cond (.t 43)
                  (.seq
                   (.reg [⟨some 2, none, .mov (.c (.int .i64 5))⟩])
                   .ret)
                  .skip))
                (.seq
                 (.seq
                  (.reg [⟨some 44, none, .faddr 1 (.t 6)⟩,
                   ⟨some 45, none, .load 1 false (.t 44)⟩,
                   ⟨some 46, none, .bin .neq (.t 45) (.c (.str []))⟩,
                   ⟨some 47, none, .mov (.t 46)⟩,
                   ⟨some 48, some (47, true), .faddr 1 (.t 6)⟩,
                   ⟨some 49, some (47, true), .load 1 false (.t 48)⟩,
                   ⟨some 50, some (47, true), .call false 42 [(.t 49)]⟩,
                   ⟨some 51, some (47, true), .un .not (.t 50)⟩,
                   ⟨some 52, none, .pick (.t 47) (.t 51) (.c (.bool false))⟩])
                  (.cond (.t 52)
                   (.seq
                    (.reg [⟨some 2, none, .mov (.c (.int .i64 3))⟩])
                    .ret)
                   .skip))
                 (.seq
                  (.reg [⟨some 53, none, .mov (.t 3)⟩,
                   ⟨some 54, none, .faddr 2 (.t 6)⟩,
                   ⟨some 55, none, .load 1 false (.t 54)⟩,
                   ⟨some 56, none, .callS 61 [(.t 53), (.t 55)]⟩,
                   ⟨some 7, none, .mov (.t 56)⟩])
                  (.seq
                   (.reg [⟨some 57, none, .mov (.t 7)⟩,
                    ⟨some 58, none, .bin .neq (.t 57) (.c (.int .i64 0))⟩])
                   (.cond (.t 58)
                    (.seq
                     (.reg [⟨some 59, none, .mov (.t 7)⟩,
                      ⟨some 2, none, .mov (.t 59)⟩])
                     .ret)
                    .skip)))))))
             (.reg [⟨some 60, none, .bin .add (.t 37) (.c (.int .i64 1))⟩,
              ⟨some 37, none, .mov (.t 60)⟩]))))
/-- tracebook/syntax.group -/
def c39 : AFn := ⟨1, 61, [.t 2],
 (.seq
  (.reg [⟨some 1, none, .box (.t 0)⟩,
   ⟨some 2, none, .mov (.c (.int .i64 0))⟩])
  (.seq
   (.seq
    (.reg [⟨some 8, none, .faddr 8 (.t 1)⟩,
     ⟨some 9, none, .load 1 false (.t 8)⟩,
     ⟨some 10, none, .len (.t 9)⟩,
     ⟨some 11, none, .faddr 9 (.t 1)⟩,
     ⟨some 12, none, .load 1 false (.t 11)⟩,
     ⟨some 13, none, .len (.t 12)⟩,
     ⟨some 14, none, .bin .add (.t 10) (.t 13)⟩,
     ⟨some 15, none, .bin .eql (.t 14) (.c (.int .i64 0))⟩])
    (.cond (.t 15)
     (.seq
      (.reg [⟨some 2, none, .mov (.c (.int .i64 8))⟩])
      .ret)
     .skip))
   (.seq
    (.seq
     (.reg [⟨some 16, none, .faddr 8 (.t 1)⟩,
      ⟨some 17, none, .load 1 false (.t 16)⟩,
      ⟨some 18, none, .len (.t 17)⟩,
      ⟨some 19, none, .bin .gtr (.t 18) (.c (.int .i64 16))⟩,
      ⟨some 20, none, .mov (.t 19)⟩,
      ⟨some 21, some (20, false), .faddr 9 (.t 1)⟩,
      ⟨some 22, some (20, false), .load 1 false (.t 21)⟩,
      ⟨some 23, some (20, false), .len (.t 22)⟩,
      ⟨some 24, some (20, false), .bin .gtr (.t 23) (.c (.int .i64 16))⟩,
      ⟨some 25, none, .pick (.t 20) (.c (.bool true)) (.t 24)⟩])
     (.cond (.t 25)
      (.seq
       (.reg [⟨some 2, none, .mov (.c (.int .i64 7))⟩])
       .ret)
      .skip))
    (.seq
     (.reg [⟨some 26, none, .mkmap none⟩,
      ⟨some 3, none, .mov (.t 26)⟩])
     (.seq
      (.seq
       (.reg [⟨some 27, none, .mov (.t 3)⟩,
        ⟨some 28, none, .faddr 8 (.t 1)⟩,
        ⟨some 29, none, .load 1 false (.t 28)⟩,
        ⟨some 30, none, .callS 62 [(.t 27), (.t 29)]⟩,
        ⟨some 4, none, .mov (.t 30)⟩])
       (.seq
        (.reg [⟨some 31, none, .mov (.t 4)⟩,
         ⟨some 32, none, .bin .neq (.t 31) (.c (.int .i64 0))⟩])
        (.cond (.t 32)
         (.seq
          (.reg [⟨some 33, none, .mov (.t 4)⟩,
           ⟨some 2, none, .mov (.t 33)⟩])
          .ret)
         .skip)))
      (.seq
       (.seq
        (.reg [⟨some 34, none, .faddr 9 (.t 1)⟩,
         ⟨some 35, none, .load 1 false (.t 34)⟩,
         ⟨some 36, none, .len (.t 35)⟩,
         ⟨some 37, none, .mov (.c (.int .i64 0))⟩])
        (.block 0
         (.loop [3, 35, 36, 37]
          c39b0)))
       (.seq
        (.reg [⟨some 2, none, .mov (.c (.int .i64 0))⟩])
        .ret))))))), none⟩
def k39 : List (List Nat) := [[3, 35, 36, 37]]
def o39 : List Nat := [1000032, 1000033, 1000034, 1000057, 1000061, 1000062, 1000079, 1000080, 1000081, 1000082, 1000083, 1000084, 1000086, 1000087, 1000094, 1000097, 1000098, 1000103, 3000000]
def c40b0 : AC := (.seq
         (.reg [⟨some 18, none, .bin .lss (.t 17) (.t 16)⟩])
         (.seq
          (.cond (.t 18)
           .skip
           (.exit 0))
          (.seq
           (.block 1
            (.seq
             (.reg [⟨some 19, none, .iaddr (.slice 2) (.t 15) (.t 17)⟩,
              ⟨some 20, none, .load 2 true (.t 19)⟩,
              ⟨some 6, none, .alloc [(.str []), (.bool false)]⟩,
              ⟨none, none, .store 2 (.t 6) (.t 20)⟩])
             (.seq
              (.reg [⟨some 21, none, .mov (.t 4)⟩,
               ⟨some 22, none, .faddr 0 (.t 6)⟩,
               ⟨some 23, none, .load 1 false (.t 22)⟩,
               ⟨some 24, none, .callS 61 [(.t 21), (.t 23)]⟩,
               ⟨some 7, none, .mov (.t 24)⟩])
              (.seq
               (.reg [⟨some 25, none, .mov (.t 7)⟩,
                ⟨some 26, none, .bin .neq (.t 25) (.c (.int .i64 0))⟩])
               (.cond (.t 26)
                (.seq
                 (.reg [⟨some 27, none, .mov (.t 7)⟩,
                  ⟨some 2, none, .mov (.t 27)⟩])
                 .ret)
                .skip)))))
           (.reg [⟨some 28, none, .bin .add (.t 17) (.c (.int .i64 1))⟩,
            ⟨some 17, none, .mov (.t 28)⟩]))))
/-- tracebook/syntax.sorts -/
def c40 : AFn := ⟨1, 29, [.t 2],
 (.seq
  (.reg [⟨some 2, none, .mov (.c (.int .i64 0))⟩])
  (.seq
   (.seq
    (.reg [⟨some 8, none, .mov (.t 0)⟩,
     ⟨some 9, none, .len (.t 8)⟩,
     ⟨some 10, none, .call false 60 [(.t 9), (.c (.int .i64 1))]⟩,
     ⟨some 3, none, .mov (.t 10)⟩])
    (.seq
     (.reg [⟨some 11, none, .mov (.t 3)⟩,
      ⟨some 12, none, .bin .neq (.t 11) (.c (.int .i64 0))⟩])
     (.cond (.t 12)
      (.seq
       (.reg [⟨some 13, none, .mov (.t 3)⟩,
        ⟨some 2, none, .mov (.t 13)⟩])
       .ret)
      .skip)))
   (.seq
    (.reg [⟨some 14, none, .mkmap none⟩,
     ⟨some 4, none, .mov (.t 14)⟩])
    (.seq
     (.seq
      (.reg [⟨some 15, none, .mov (.t 0)⟩,
       ⟨some 16, none, .len (.t 15)⟩,
       ⟨some 17, none, .mov (.c (.int .i64 0))⟩])
      (.block 0
       (.loop [4, 15, 16, 17]
        c40b0)))
     (.seq
      (.reg [⟨some 2, none, .mov (.c (.int .i64 0))⟩])
      .ret))))), none⟩
def k40 : List (List Nat) := [[4, 15, 16, 17]]
def o40 : List Nat := [1000032, 1000033, 1000034, 1000057, 1000061, 1000062, 1000079, 1000080, 1000081, 1000082, 1000083, 1000084, 1000086, 1000087, 1000094, 1000097, 1000098, 1000103, 3000000]
/-- tracebook/syntax.cols -/
def c41 : AFn := ⟨2, 16, [.t 4],
 (.seq
  (.reg [⟨some 4, none, .mov (.c (.int .i64 0))⟩])
  (.seq
   (.seq
    (.reg [⟨some 6, none, .mov (.t 0)⟩,
     ⟨some 7, none, .len (.t 6)⟩,
     ⟨some 8, none, .mov (.t 1)⟩,
     ⟨some 9, none, .call false 60 [(.t 7), (.t 8)]⟩,
     ⟨some 5, none, .mov (.t 9)⟩])
    (.seq
     (.reg [⟨some 10, none, .mov (.t 5)⟩,
      ⟨some 11, none, .bin .neq (.t 10) (.c (.int .i64 0))⟩])
     (.cond (.t 11)
      (.seq
       (.reg [⟨some 12, none, .mov (.t 5)⟩,
        ⟨some 4, none, .mov (.t 12)⟩])
       .ret)
      .skip)))
   (.seq
    (.reg [⟨some 13, none, .mkmap none⟩,
     ⟨some 14, none, .mov (.t 0)⟩,
     ⟨some 15, none, .callS 62 [(.t 13), (.t 14)]⟩,
     ⟨some 4, none, .mov (.t 15)⟩])
    .ret))), none⟩
def k41 : List (List Nat) := []
def o41 : List Nat := [1000032, 1000033, 1000034, 1000057, 1000061, 1000062, 1000079, 1000080, 1000081, 1000082, 1000083, 1000084, 1000086, 1000087, 1000094, 1000097, 1000098, 1000103, 3000000]
def c42b0 : AC := (.seq
        (.reg [⟨some 17, none, .bin .lss (.t 16) (.t 15)⟩])
        (.seq
         (.cond (.t 17)
          .skip
          (.exit 0))
         (.seq
          (.block 1
           (.seq
            (.reg [⟨some 18, none, .mov (.t 16)⟩,
             ⟨some 3, none, .mov (.t 18)⟩])
            (.seq
             (.reg [⟨some 19, none, .mov (.t 0)⟩,
              ⟨some 20, none, .mov (.t 3)⟩,
              ⟨some 21, none, .idxS (.t 19) (.t 20)⟩,
              ⟨some 4, none, .mov (.t 21)⟩])
             (.seq
              (.reg [⟨some 22, none, .mov (.t 4)⟩,
               ⟨some 23, none, .bin .leq (.c (.int .u8 97)) (.t 22)⟩,
               ⟨some 24, none, .mov (.t 23)⟩,
               ⟨some 25, some (24, true), .mov (.t 4)⟩,
               ⟨some 26, some (24, true), .bin .leq (.t 25) (.c (.int .u8 122))⟩,
               ⟨some 27, none, .pick (.t 24) (.t 26) (.c (.bool false))⟩,
               ⟨some 5, none, .mov (.t 27)⟩])
              (.seq
               (.reg [⟨some 28, none, .mov (.t 5)⟩,
                ⟨some 29, none, .un .not (.t 28)⟩,
                ⟨some 30, none, .mov (.t 29)⟩,
                ⟨some 31, some (30, true), .mov (.t 3)⟩,
                ⟨some 32, some (30, true), .bin .eql (.t 31) (.c (.int .i64 0))⟩,
                ⟨some 33, some (30, true), .mov (.t 32)⟩,
                ⟨some 34, some (33, false), .mov (.t 4)⟩,
                ⟨some 35, some (33, false), .bin .neq (.t 34) (.c (.int .u8 95))⟩,
                ⟨some 36, some (33, false), .mov (.t 35)⟩,
                ⟨some 37, some (36, true), .mov (.t 4)⟩,
                ⟨some 38, some (36, true), .bin .lss (.t 37) (.c (.int .u8 48))⟩,
                ⟨some 39, some (36, true), .mov (.t 38)⟩,
                ⟨some 40, some (39, false), .mov (.t 4)⟩,
                ⟨some 41, some (39, false), .bin .gtr (.t 40) (.c (.int .u8 57))⟩,
                ⟨some 42, some (36, true), .pick (.t 39) (.c (.bool true)) (.t 41)⟩,
                ⟨some 43, some (33, false), .pick (.t 36) (.t 42) (.c (.bool false))⟩,
                ⟨some 44, some (30, true), .pick (.t 33) (.c (.bool true)) (.t 43)⟩,
                ⟨some 45, none, .pick (.t 30) (.t 44) (.c (.bool false))⟩])
               (.cond (.t 45)
                (.seq
                 (.reg [⟨some 2, none, .mov (.c (.bool false))⟩])
                 .ret)
                .skip))))))
          (.reg [⟨some 46, none, .bin .add (.t 16) (.c (.int .i64 1))⟩,
           ⟨some 16, none, .mov (.t 46)⟩]))))
/-- tracebook/syntax.isIdentifier -/
def c42 : AFn := ⟨1, 55, [.t 2],
 (.seq
  (.reg [⟨some 2, none, .mov (.c (.bool false))⟩])
  (.seq
   (.seq
    (.reg [⟨some 6, none, .mov (.t 0)⟩,
     ⟨some 7, none, .lenS (.t 6)⟩,
     ⟨some 8, none, .bin .lss (.t 7) (.c (.int .i64 1))⟩,
     ⟨some 9, none, .mov (.t 8)⟩,
     ⟨some 10, some (9, false), .mov (.t 0)⟩,
     ⟨some 11, some (9, false), .lenS (.t 10)⟩,
     ⟨some 12, some (9, false), .bin .gtr (.t 11) (.c (.int .i64 40))⟩,
     ⟨some 13, none, .pick (.t 9) (.c (.bool true)) (.t 12)⟩])
    (.cond (.t 13)
     (.seq
      (.reg [⟨some 2, none, .mov (.c (.bool false))⟩])
      .ret)
     .skip))
   (.seq
    (.seq
     (.reg [⟨some 14, none, .mov (.t 0)⟩,
      ⟨some 15, none, .lenS (.t 14)⟩,
      ⟨some 16, none, .mov (.c (.int .i64 0))⟩])
     (.block 0
      (.loop [0, 15, 16]
       c42b0)))
    (.seq
     (.seq
      (.reg [⟨some 47, none, .mov (.t 0)⟩])
      (.block 2
       (.seq
        (.seq
         (.reg [⟨some 49, none, .bin .eql (.t 47) (.c (.str [97, 110, 100]))⟩,
          ⟨some 48, none, .mov (.t 49)⟩])
         (.cond (.t 48)
          .skip
          (.seq
           (.reg [⟨some 50, none, .bin .eql (.t 47) (.c (.str [111, 114]))⟩,
            ⟨some 48, none, .mov (.t 50)⟩])
           (.cond (.t 48)
            .skip
            (.seq
             (.reg [⟨some 51, none, .bin .eql (.t 47) (.c (.str [110, 111, 116]))⟩,
              ⟨some 48, none, .mov (.t 51)⟩])
             (.cond (.t 48)
              .skip
              (.seq
               (.reg [⟨some 52, none, .bin .eql (.t 47) (.c (.str [110, 117, 108, 108]))⟩,
                ⟨some 48, none, .mov (.t 52)⟩])
               (.cond (.t 48)
                .skip
                (.seq
                 (.reg [⟨some 53, none, .bin .eql (.t 47) (.c (.str [116, 114, 117, 101]))⟩,
                  ⟨some 48, none, .mov (.t 53)⟩])
                 (.cond (.t 48)
                  .skip
                  (.reg [⟨some 54, none, .bin .eql (.t 47) (.c (.str [102, 97, 108, 115, 101]))⟩,
                   ⟨some 48, none, .mov (.t 54)⟩])))))))))))
        (.cond (.t 48)
         (.seq
          (.reg [⟨some 2, none, .mov (.c (.bool false))⟩])
          .ret)
         .skip))))
     (.seq
      (.reg [⟨some 2, none, .mov (.c (.bool true))⟩])
      .ret))))), none⟩
def k42 : List (List Nat) := [[0, 15, 16]]
def o42 : List Nat := [1000032, 1000033, 1000034, 1000057, 1000061, 1000062, 1000079, 1000080, 1000081, 1000082, 1000083, 1000084, 1000086, 1000087, 1000094, 1000097, 1000098, 1000103, 3000000]
/-- tracebook/tracebookref36.unused -/
def c43 : AFn := ⟨1, 85, [.t 2],
 (.seq
  (.reg [⟨some 1, none, .box (.t 0)⟩,
   ⟨some 2, none, .mov (.c (.bool false))⟩])
  (.seq
   (.reg [⟨some 5, none, .faddr 0 (.t 1)⟩,
    ⟨some 6, none, .load 1 false (.t 5)⟩,
    ⟨some 3, none, .mov (.t 6)⟩])
   (.seq
    (.seq
     (.reg [⟨some 7, none, .mov (.t 3)⟩,
      ⟨some 8, none, .bin .neq (.t 7) (.c (.int .i64 1))⟩,
      ⟨some 9, none, .mov (.t 8)⟩,
      ⟨some 10, some (9, true), .faddr 1 (.t 1)⟩,
      ⟨some 11, some (9, true), .load 6 true (.t 10)⟩,
      ⟨some 12, some (9, true), .call false 64 [(.t 11)]⟩,
      ⟨some 13, some (9, true), .un .not (.t 12)⟩,
      ⟨some 14, none, .pick (.t 9) (.t 13) (.c (.bool false))⟩,
      ⟨some 15, none, .mov (.t 14)⟩,
      ⟨some 16, some (15, false), .mov (.t 3)⟩,
      ⟨some 17, some (15, false), .bin .neq (.t 16) (.c (.int .i64 2))⟩,
      ⟨some 18, some (15, false), .mov (.t 17)⟩,
      ⟨some 19, some (18, true), .faddr 7 (.t 1)⟩,
      ⟨some 20, some (18, true), .load 1 false (.t 19)⟩,
      ⟨some 21, some (18, true), .len (.t 20)⟩,
      ⟨some 22, some (18, true), .bin .gtr (.t 21) (.c (.int .i64 0))⟩,
      ⟨some 23, some (15, false), .pick (.t 18) (.t 22) (.c (.bool false))⟩,
      ⟨some 24, none, .pick (.t 15) (.c (.bool true)) (.t 23)⟩,
      ⟨some 25, none, .mov (.t 24)⟩,
      ⟨some 26, some (25, false), .mov (.t 3)⟩,
      ⟨some 27, some (25, false), .bin .neq (.t 26) (.c (.int .i64 3))⟩,
      ⟨some 28, some (25, false), .mov (.t 27)⟩,
      ⟨some 29, some (28, true), .faddr 9 (.t 1)⟩,
      ⟨some 30, some (28, true), .load 1 false (.t 29)⟩,
      ⟨some 31, some (28, true), .len (.t 30)⟩,
      ⟨some 32, some (28, true), .bin .gtr (.t 31) (.c (.int .i64 0))⟩,
      ⟨some 33, some (25, false), .pick (.t 28) (.t 32) (.c (.bool false))⟩,
      ⟨some 34, none, .pick (.t 25) (.c (.bool true)) (.t 33)⟩])
     (.cond (.t 34)
      (.seq
       (.reg [⟨some 2, none, .mov (.c (.bool false))⟩])
       .ret)
      .skip))
    (.seq
     (.seq
      (.reg [⟨some 35, none, .mov (.t 3)⟩,
       ⟨some 36, none, .bin .neq (.t 35) (.c (.int .i64 4))⟩,
       ⟨some 37, none, .mov (.t 36)⟩,
       ⟨some 38, some (37, true), .faddr 10 (.t 1)⟩,
       ⟨some 39, some (37, true), .load 1 false (.t 38)⟩,
       ⟨some 40, some (37, true), .len (.t 39)⟩,
       ⟨some 41, some (37, true), .bin .gtr (.t 40) (.c (.int .i64 0))⟩,
       ⟨some 42, none, .pick (.t 37) (.t 41) (.c (.bool false))⟩,
       ⟨some 43, none, .mov (.t 42)⟩,
       ⟨some 44, some (43, false), .mov (.t 3)⟩,
       ⟨some 45, some (43, false), .bin .neq (.t 44) (.c (.int .i64 5))⟩,
       ⟨some 46, some (43, false), .mov (.t 45)⟩,
       ⟨some 47, some (46, true), .faddr 11 (.t 1)⟩,
       ⟨some 48, some (46, true), .load 1 false (.t 47)⟩,
       ⟨some 49, some (46, true), .bin .neq (.t 48) (.c (.int .i64 0))⟩,
       ⟨some 50, some (43, false), .pick (.t 46) (.t 49) (.c (.bool false))⟩,
       ⟨some 51, none, .pick (.t 43) (.c (.bool true)) (.t 50)⟩])
      (.cond (.t 51)
       (.seq
        (.reg [⟨some 2, none, .mov (.c (.bool false))⟩])
        .ret)
       .skip))
     (.seq
      (.reg [⟨some 52, none, .mov (.t 3)⟩,
       ⟨some 53, none, .bin .eql (.t 52) (.c (.int .i64 6))⟩,
       ⟨some 54, none, .mov (.t 53)⟩,
       ⟨some 55, some (54, false), .mov (.t 3)⟩,
       ⟨some 56, some (54, false), .bin .eql (.t 55) (.c (.int .i64 7))⟩,
       ⟨some 57, none, .pick (.t 54) (.c (.bool true)) (.t 56)⟩,
       ⟨some 58, none, .mov (.t 57)⟩,
       ⟨some 59, some (58, false), .mov (.t 3)⟩,
       ⟨some 60, some (58, false), .bin .eql (.t 59) (.c (.int .i64 8))⟩,
       ⟨some 61, none, .pick (.t 58) (.c (.bool true)) (.t 60)⟩,
       ⟨some 4, none, .mov (.t 61)⟩])
      (.seq
       (.reg [⟨some 62, none, .mov (.t 4)⟩,
        ⟨some 63, none, .mov (.t 62)⟩,
        ⟨some 64, some (63, false), .faddr 12 (.t 1)⟩,
        ⟨some 65, some (63, false), .load 1 false (.t 64)⟩,
        ⟨some 66, some (63, false), .bin .eql (.t 65) (.c (.str []))⟩,
        ⟨some 67, none, .pick (.t 63) (.c (.bool true)) (.t 66)⟩,
        ⟨some 68, none, .mov (.t 67)⟩,
        ⟨some 69, some (68, true), .mov (.t 4)⟩,
        ⟨some 70, some (68, true), .mov (.t 69)⟩,
        ⟨some 71, some (70, false), .mov (.t 3)⟩,
        ⟨some 72, some (70, false), .bin .eql (.t 71) (.c (.int .i64 3))⟩,
        ⟨some 73, some (68, true), .pick (.t 70) (.c (.bool true)) (.t 72)⟩,
        ⟨some 74, some (68, true), .mov (.t 73)⟩,
        ⟨some 75, some (74, false), .mov (.t 3)⟩,
        ⟨some 76, some (74, false), .bin .eql (.t 75) (.c (.int .i64 9))⟩,
        ⟨some 77, some (68, true), .pick (.t 74) (.c (.bool true)) (.t 76)⟩,
        ⟨some 78, some (68, true), .mov (.t 77)⟩,
        ⟨some 79, some (78, false), .faddr 8 (.t 1)⟩,
        ⟨some 80, some (78, false), .load 1 false (.t 79)⟩,
        ⟨some 81, some (78, false), .len (.t 80)⟩,
        ⟨some 82, some (78, false), .bin .eql (.t 81) (.c (.int .i64 0))⟩,
        ⟨some 83, some (68, true), .pick (.t 78) (.c (.bool true)) (.t 82)⟩,
        ⟨some 84, none, .pick (.t 68) (.t 83) (.c (.bool false))⟩,
        ⟨some 2, none, .mov (.t 84)⟩])
       .ret)))))), none⟩
def k43 : List (List Nat) := []
def o43 : List Nat := [1000032, 1000033, 1000034, 1000057, 1000061, 1000062, 1000079, 1000080, 1000081, 1000082, 1000083, 1000084, 1000086, 1000087, 1000094, 1000097, 1000098, 1000103, 3000000]
def c44b0 : AC := (.seq
         (.seq
          (.reg [⟨some 21, none, .mov (.t 5)⟩,
           ⟨some 22, none, .mov (.t 0)⟩,
           ⟨some 23, none, .lenS (.t 22)⟩,
           ⟨some 24, none, .bin .lss (.t 21) (.t 23)⟩])
          (.cond (.t 24)
           .skip
           (.exit 2)))
         (.seq
          (.block 3
           (.seq
            (.reg [⟨some 27, none, .mov (.t 0)⟩,
             ⟨some 28, none, .mov (.t 5)⟩,
             ⟨some 29, none, .idxS (.t 27) (.t 28)⟩,
             ⟨some 30, none, .bin .geq (.t 29) (.c (.int .u8 97))⟩,
             ⟨some 31, none, .mov (.t 30)⟩,
             ⟨some 32, some (31, true), .mov (.t 0)⟩,
             ⟨some 33, some (31, true), .mov (.t 5)⟩,
             ⟨some 34, some (31, true), .idxS (.t 32) (.t 33)⟩,
             ⟨some 35, some (31, true), .bin .leq (.t 34) (.c (.int .u8 122))⟩,
             ⟨some 36, none, .pick (.t 31) (.t 35) (.c (.bool false))⟩,
             ⟨some 6, none, .mov (.t 36)⟩])
            (.seq
             (.reg [⟨some 37, none, .mov (.t 0)⟩,
              ⟨some 38, none, .mov (.t 5)⟩,
              ⟨some 39, none, .idxS (.t 37) (.t 38)⟩,
              ⟨some 40, none, .bin .geq (.t 39) (.c (.int .u8 48))⟩,
              ⟨some 41, none, .mov (.t 40)⟩,
              ⟨some 42, some (41, true), .mov (.t 0)⟩,
              ⟨some 43, some (41, true), .mov (.t 5)⟩,
              ⟨some 44, some (41, true), .idxS (.t 42) (.t 43)⟩,
              ⟨some 45, some (41, true), .bin .leq (.t 44) (.c (.int .u8 57))⟩,
              ⟨some 46, none, .pick (.t 41) (.t 45) (.c (.bool false))⟩,
              ⟨some 47, none, .mov (.t 46)⟩,
              ⟨some 48, some (47, false), .mov (.t 0)⟩,
              ⟨some 49, some (47, false), .mov (.t 5)⟩,
              ⟨some 50, some (47, false), .idxS (.t 48) (.t 49)⟩,
              ⟨some 51, some (47, false), .bin .eql (.t 50) (.c (.int .u8 95))⟩,
              ⟨some 52, none, .pick (.t 47) (.c (.bool true)) (.t 51)⟩,
              ⟨some 7, none, .mov (.t 52)⟩])
             (.seq
              (.reg [⟨some 53, none, .mov (.t 6)⟩,
               ⟨some 54, none, .un .not (.t 53)⟩,
               ⟨some 55, none, .mov (.t 54)⟩,
               ⟨some 56, some (55, true), .mov (.t 7)⟩,
               ⟨some 57, some (55, true), .un .not (.t 56)⟩,
               ⟨some 58, some (55, true), .mov (.t 57)⟩,
               ⟨some 59, some (58, false), .mov (.t 5)⟩,
               ⟨some 60, some (58, false), .bin .eql (.t 59) (.c (.int .i64 0))⟩,
               ⟨some 61, some (55, true), .pick (.t 58) (.c (.bool true)) (.t 60)⟩,
               ⟨some 62, none, .pick (.t 55) (.t 61) (.c (.bool false))⟩])
              (.cond (.t 62)
               (.seq
                (.reg [⟨some 2, none, .mov (.c (.bool false))⟩])
                .ret)
               .skip)))))
          (.reg [⟨some 25, none, .mov (.t 5)⟩,
           ⟨some 26, none, .bin .add (.t 25) (.c (.int .i64 1))⟩,
           ⟨some 5, none, .mov (.t 26)⟩])))
def c44b1 : AC := (.seq
        (.seq
         (.reg [⟨some 9, none, .mov (.t 4)⟩,
          ⟨some 10, none, .mov (.t 3)⟩,
          ⟨some 11, none, .len (.t 10)⟩,
          ⟨some 12, none, .bin .lss (.t 9) (.t 11)⟩])
         (.cond (.t 12)
          .skip
          (.exit 0)))
        (.seq
         (.block 1
          (.seq
           (.reg [⟨some 15, none, .mov (.t 0)⟩,
            ⟨some 16, none, .mov (.t 3)⟩,
            ⟨some 17, none, .mov (.t 4)⟩,
            ⟨some 18, none, .iaddr (.slice 1) (.t 16) (.t 17)⟩,
            ⟨some 19, none, .load 1 false (.t 18)⟩,
            ⟨some 20, none, .bin .eql (.t 15) (.t 19)⟩])
           (.cond (.t 20)
            (.seq
             (.reg [⟨some 2, none, .mov (.c (.bool false))⟩])
             .ret)
            .skip)))
         (.reg [⟨some 13, none, .mov (.t 4)⟩,
          ⟨some 14, none, .bin .add (.t 13) (.c (.int .i64 1))⟩,
          ⟨some 4, none, .mov (.t 14)⟩])))
def c44r0 : AC := (.seq
     (.seq
      (.reg [⟨some 5, none, .mov (.c (.int .i64 0))⟩])
      (.block 2
       (.loop [0, 5]
        c44b0)))
     (.seq
      (.reg [⟨some 63, none, .mov (.t 0)⟩,
       ⟨some 64, none, .lenS (.t 63)⟩,
       ⟨some 65, none, .bin .geq (.t 64) (.c (.int .i64 1))⟩,
       ⟨some 66, none, .mov (.t 65)⟩,
       ⟨some 67, some (66, true), .mov (.t 0)⟩,
       ⟨some 68, some (66, true), .lenS (.t 67)⟩,
       ⟨some 69, some (66, true), .bin .leq (.t 68) (.c (.int .i64 40))⟩,
       ⟨some 70, none, .pick (.t 66) (.t 69) (.c (.bool false))⟩,
       ⟨some 2, none, .mov (.t 70)⟩])
      .ret))
/-- tracebook/tracebookref36.Ident -/
def c44 : AFn := ⟨1, 71, [.t 2],
 (.seq
  (.reg [⟨some 2, none, .mov (.c (.bool false))⟩])
  (.seq
   (.reg [⟨some 8, none, .bslice false 1 [(.str [])] 6 [(0, (.c (.str [97, 110, 100]))), (1, (.c (.str [111, 114]))), (2, (.c (.str [110, 111, 116]))), (3, (.c (.str [110, 117, 108, 108]))), (4, (.c (.str [116, 114, 117, 101]))), (5, (.c (.str [102, 97, 108, 115, 101])))]⟩,
    ⟨some 3, none, .mov (.t 8)⟩])
   (.seq
    (.seq
     (.reg [⟨some 4, none, .mov (.c (.int .i64 0))⟩])
     (.block 0
      (.loop [0, 3, 4]
       c44b1)))
    c44r0))), none⟩
def k44 : List (List Nat) := [[0, 3, 4], [0, 5]]
def o44 : List Nat := [1000032, 1000033, 1000034, 1000057, 1000061, 1000062, 1000079, 1000080, 1000081, 1000082, 1000083, 1000084, 1000086, 1000087, 1000094, 1000097, 1000098, 1000103, 3000000]
end Go.Proofs.Ytllgemagnfcjiaa
/- What comes in, opened type by type. -/
namespace Go.Proofs.Ytllgemagnfcjiaa
open Go Go.RowKit
set_option linter.unusedVariables false

section
variable {P : Program} {d : Nat} {t : TypeId} {ps : List PV} {p : PV}
theorem ht_bool (hu : P.underlying t = some .bool) (h : HT P (d + 1) t ps) : ∃ b, ps = [.bool b] := by simp only [HT, hu] at h; exact h
theorem ht_int {k : IntKind} (hu : P.underlying t = some (.int k)) (h : HT P (d + 1) t ps) : ∃ i, ps = [.int k i] ∧ (Lit.int k i).wf = true := by simp only [HT, hu] at h; exact h
theorem ht_string (hu : P.underlying t = some .string) (h : HT P (d + 1) t ps) : ∃ s, ps = [.str s] ∧ s.length ≤ maxLen := by simp only [HT, hu] at h; exact h
theorem ht_slice {e : TypeId} (hu : P.underlying t = some (.slice e)) (h : HT P (d + 1) t ps) : ∃ rows, ps = [.sl false (P.cellsOf e) rows] ∧ rows.length ≤ maxLen ∧ ∀ r ∈ rows, HT P d e r := by simp only [HT, hu] at h; exact h
theorem ht_struct {fs : Array Field} (hu : P.underlying t = some (.struct fs)) (h : HT P (d + 1) t ps) : HTF (HT P d) fs.toList ps := by simp only [HT, hu] at h; exact h
theorem ht_array {k : Nat} {e : TypeId} (hu : P.underlying t = some (.array k e)) (h : HT P (d + 1) t ps) : HTA (HT P d e) k ps := by simp only [HT, hu] at h; exact h
theorem argT_struct {fs : Array Field} (hu : P.underlying t = some (.struct fs)) (h : ArgT P d t p) : ∃ ps, p = .agg ps ∧ HT P d t ps := by simp only [ArgT, hu] at h; exact h
theorem argT_array {k : Nat} {e : TypeId} (hu : P.underlying t = some (.array k e)) (h : ArgT P d t p) : ∃ ps, p = .agg ps ∧ HT P d t ps := by simp only [ArgT, hu] at h; exact h
theorem argT_slice {e : TypeId} (hu : P.underlying t = some (.slice e)) (h : ArgT P d t p) : HT P d t [p] := by simp only [ArgT, hu] at h; exact h
theorem argT_int {k : IntKind} (hu : P.underlying t = some (.int k)) (h : ArgT P (d + 1) t p) : ∃ i, p = .int k i ∧ (Lit.int k i).wf = true := by
  simp only [ArgT, hu] at h
  obtain ⟨i, h1, h2⟩ := ht_int hu h
  exact ⟨i, by simpa using h1, h2⟩
theorem argT_bool (hu : P.underlying t = some .bool) (h : ArgT P (d + 1) t p) : ∃ b, p = .bool b := by
  simp only [ArgT, hu] at h
  obtain ⟨i, h1⟩ := ht_bool hu h
  exact ⟨i, by simpa using h1⟩
theorem argT_string (hu : P.underlying t = some .string) (h : ArgT P (d + 1) t p) : ∃ s, p = .str s ∧ s.length ≤ maxLen := by
  simp only [ArgT, hu] at h
  obtain ⟨i, h1, h2⟩ := ht_string hu h
  exact ⟨i, by simpa using h1, h2⟩

/-- a slice of rows of one shape -/
theorem argT_rows {α : Type} {f : α → List PV} {e : TypeId} {c : Nat} {Q : α → Prop} (hu : P.underlying t = some (.slice e)) (hc : P.cellsOf e = c) (hf : ∀ r, HT P d e r → ∃ a, r = f a ∧ Q a) (h : HT P (d + 1) t ps) : ∃ l : List α, ps = [.sl false c (l.map f)] ∧ l.length ≤ maxLen ∧ ∀ a ∈ l, Q a := by
  obtain ⟨rows, rfl, hl, hr⟩ := ht_slice hu h
  rw [hc]
  clear h
  have : ∃ l : List α, rows = l.map f ∧ ∀ a ∈ l, Q a := by
    clear hl
    induction rows with
    | nil => exact ⟨[], rfl, by simp⟩
    | cons r rows ih =>
      obtain ⟨a, ha, hq⟩ := hf r (hr r (by simp))
      obtain ⟨l, hl, hql⟩ := ih fun r' hr' => hr r' (by simp [hr'])
      refine ⟨a :: l, by simp [ha, hl], ?_⟩
      intro b hb
      rcases List.mem_cons.1 hb with rfl | hb
      · exact hq
      · exact hql b hb
  obtain ⟨l, rfl, hq⟩ := this
  exact ⟨l, rfl, by simpa using hl, hq⟩

theorem htf_nil {h : TypeId → List PV → Prop} {ps : List PV} (x : HTF h [] ps) : ps = [] := x
theorem htf_cons {h : TypeId → List PV → Prop} {f : Field} {r : List Field} {ps : List PV} (x : HTF h (f :: r) ps) : ∃ p q, ps = p ++ q ∧ h f.type p ∧ HTF h r q := x
theorem hta_nil {h : List PV → Prop} {ps : List PV} (x : HTA h 0 ps) : ps = [] := x
theorem hta_cons {h : List PV → Prop} {k : Nat} {ps : List PV} (x : HTA h (k + 1) ps) : ∃ p q, ps = p ++ q ∧ h p ∧ HTA h k q := x

theorem argL1 {t1 : TypeId} (h : ArgL P d [t1] ps) : ∃ a, ps = [a] ∧ ArgT P d t1 a := by
  cases ps with
  | nil => exact h.elim
  | cons a r => cases r with
    | nil => exact ⟨a, rfl, h.1⟩
    | cons b r => exact h.2.elim
theorem argL_cons {t1 : TypeId} {ts : List TypeId} (h : ArgL P d (t1 :: ts) ps) : ∃ a qs, ps = a :: qs ∧ ArgT P d t1 a ∧ ArgL P d ts qs := by
  cases ps with
  | nil => exact h.elim
  | cons a r => exact ⟨a, r, rfl, h.1, h.2⟩
theorem argL2 {t1 t2 : TypeId} (h : ArgL P d [t1, t2] ps) : ∃ a b, ps = [a, b] ∧ ArgT P d t1 a ∧ ArgT P d t2 b := by
  obtain ⟨a, q, rfl, h1, h2⟩ := argL_cons h
  obtain ⟨b, rfl, h3⟩ := argL1 h2
  exact ⟨a, b, rfl, h1, h3⟩
theorem argL3 {t1 t2 t3 : TypeId} (h : ArgL P d [t1, t2, t3] ps) : ∃ a b c, ps = [a, b, c] ∧ ArgT P d t1 a ∧ ArgT P d t2 b ∧ ArgT P d t3 c := by
  obtain ⟨a, q, rfl, h1, h2⟩ := argL_cons h
  obtain ⟨b, c, rfl, h3, h4⟩ := argL2 h2
  exact ⟨a, b, c, rfl, h1, h3, h4⟩
theorem argL4 {t1 t2 t3 t4 : TypeId} (h : ArgL P d [t1, t2, t3, t4] ps) : ∃ a b c e, ps = [a, b, c, e] ∧ ArgT P d t1 a ∧ ArgT P d t2 b ∧ ArgT P d t3 c ∧ ArgT P d t4 e := by
  obtain ⟨a, q, rfl, h1, h2⟩ := argL_cons h
  obtain ⟨b, c, e, rfl, h3, h4, h5⟩ := argL3 h2
  exact ⟨a, b, c, e, rfl, h1, h3, h4, h5⟩
theorem wf_i64 {i : Int} (h : (Lit.int .i64 i).wf = true) : -9223372036854775808 ≤ i ∧ i ≤ 9223372036854775807 := by
  simp [Lit.wf, IntKind.min, IntKind.max, IntKind.signed, IntKind.bits] at h
  omega
end
end Go.Proofs.Ytllgemagnfcjiaa
