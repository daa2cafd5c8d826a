/- The code of the functions, as it is read. -/
import Derived.Test.YtlnaibkpmklkiaaOpE
import Derived.Test.YtlnaibkpmklkiaaProg
namespace Go.Proofs.Ytlnaibkpmklkiaa
open Go
/-- tracebook/tracebooklaw28.FlowOf -/
def c3 : AFn := ⟨1, 22, [.t 2],
 (.seq
  (.reg [⟨some 2, none, .mov (.c (.bool false))⟩])
  (.seq
   (.seq
    (.reg [⟨some 3, none, .mov (.t 0)⟩,
     ⟨some 4, none, .len (.t 3)⟩,
     ⟨some 5, none, .bin .gtr (.t 4) (.c (.int .i64 300))⟩])
    (.cond (.t 5)
     (.seq
      (.reg [⟨some 6, none, .call false 9 []⟩,
       ⟨some 2, none, .mov (.t 6)⟩])
      .ret)
     .skip))
   (.seq
    (.reg [⟨some 7, none, .mov (.t 0)⟩,
     ⟨some 8, none, .call false 11 [(.t 7)]⟩,
     ⟨some 9, none, .mov (.t 0)⟩,
     ⟨some 10, none, .call false 12 [(.t 9)]⟩,
     ⟨some 11, none, .call false 10 [(.t 8), (.t 10)]⟩,
     ⟨some 12, none, .mov (.t 11)⟩,
     ⟨some 13, some (12, true), .mov (.t 0)⟩,
     ⟨some 14, some (12, true), .call false 14 [(.t 13)]⟩,
     ⟨some 15, some (12, true), .mov (.t 0)⟩,
     ⟨some 16, some (12, true), .call false 15 [(.t 15)]⟩,
     ⟨some 17, some (12, true), .call false 13 [(.t 14), (.t 16)]⟩,
     ⟨some 18, none, .pick (.t 12) (.t 17) (.c (.bool false))⟩,
     ⟨some 19, none, .mov (.t 18)⟩,
     ⟨some 20, some (19, true), .call false 9 []⟩,
     ⟨some 21, none, .pick (.t 19) (.t 20) (.c (.bool false))⟩,
     ⟨some 2, none, .mov (.t 21)⟩])
    .ret))), none⟩
def k3 : List (List Nat) := []
def o3 : List Nat := [3000000]
/-- tracebook/tracebooklaw28.FlowChecks -/
def c4 : AFn := ⟨3, 30, [.t 6],
 (.seq
  (.reg [⟨some 6, none, .mov (.c (.bool false))⟩])
  (.seq
   (.seq
    (.reg [⟨some 7, none, .mov (.t 0)⟩,
     ⟨some 8, none, .len (.t 7)⟩,
     ⟨some 9, none, .bin .gtr (.t 8) (.c (.int .i64 1000))⟩])
    (.cond (.t 9)
     (.seq
      (.reg [⟨some 10, none, .call false 9 []⟩,
       ⟨some 6, none, .mov (.t 10)⟩])
      .ret)
     .skip))
   (.seq
    (.reg [⟨some 11, none, .mov (.t 0)⟩,
     ⟨some 12, none, .call false 16 [(.t 11)]⟩,
     ⟨some 13, none, .mov (.t 0)⟩,
     ⟨some 14, none, .call false 17 [(.t 13)]⟩,
     ⟨some 15, none, .bin .eql (.t 12) (.t 14)⟩,
     ⟨some 16, none, .mov (.t 15)⟩,
     ⟨some 17, some (16, true), .mov (.t 0)⟩,
     ⟨some 18, some (16, true), .mov (.t 1)⟩,
     ⟨some 19, some (16, true), .mov (.t 2)⟩,
     ⟨some 20, some (16, true), .call false 18 [(.t 17), (.t 18), (.t 19)]⟩,
     ⟨some 21, some (16, true), .mov (.t 0)⟩,
     ⟨some 22, some (16, true), .mov (.t 1)⟩,
     ⟨some 23, some (16, true), .mov (.t 2)⟩,
     ⟨some 24, some (16, true), .call false 19 [(.t 21), (.t 22), (.t 23)]⟩,
     ⟨some 25, some (16, true), .call false 10 [(.t 20), (.t 24)]⟩,
     ⟨some 26, none, .pick (.t 16) (.t 25) (.c (.bool false))⟩,
     ⟨some 27, none, .mov (.t 26)⟩,
     ⟨some 28, some (27, true), .call false 9 []⟩,
     ⟨some 29, none, .pick (.t 27) (.t 28) (.c (.bool false))⟩,
     ⟨some 6, none, .mov (.t 29)⟩])
    .ret))), none⟩
def k4 : List (List Nat) := []
def o4 : List Nat := [3000000]
def c5b0 : AC := (.seq
             (.seq
              (.reg [⟨some 126, none, .mov (.t 10)⟩,
               ⟨some 127, none, .mov (.t 0)⟩,
               ⟨some 128, none, .len (.t 127)⟩,
               ⟨some 129, none, .bin .lss (.t 126) (.t 128)⟩])
              (.cond (.t 129)
               .skip
               (.exit 6)))
             (.seq
              (.block 7
               (.seq
                (.reg [⟨some 132, none, .mov (.t 0)⟩,
                 ⟨some 133, none, .mov (.t 10)⟩,
                 ⟨some 134, none, .iaddr (.slice 10) (.t 132) (.t 133)⟩,
                 ⟨some 135, none, .faddr 2 (.t 134)⟩,
                 ⟨some 136, none, .faddr 1 (.t 135)⟩,
                 ⟨some 137, none, .load 1 false (.t 136)⟩,
                 ⟨some 138, none, .bin .eql (.t 137) (.c (.int .i64 6))⟩,
                 ⟨some 139, none, .mov (.t 138)⟩,
                 ⟨some 140, some (139, true), .mov (.t 4)⟩,
                 ⟨some 141, some (139, true), .mov (.t 0)⟩,
                 ⟨some 142, some (139, true), .mov (.t 10)⟩,
                 ⟨some 143, some (139, true), .iaddr (.slice 10) (.t 141) (.t 142)⟩,
                 ⟨some 144, some (139, true), .faddr 2 (.t 143)⟩,
                 ⟨some 145, some (139, true), .faddr 3 (.t 144)⟩,
                 ⟨some 146, some (139, true), .load 1 false (.t 145)⟩,
                 ⟨some 147, some (139, true), .call false 20 [(.t 140), (.t 146)]⟩,
                 ⟨some 148, some (139, true), .mov (.t 0)⟩,
                 ⟨some 149, some (139, true), .mov (.t 0)⟩,
                 ⟨some 150, some (139, true), .mov (.t 10)⟩,
                 ⟨some 151, some (139, true), .iaddr (.slice 10) (.t 149) (.t 150)⟩,
                 ⟨some 152, some (139, true), .faddr 2 (.t 151)⟩,
                 ⟨some 153, some (139, true), .faddr 3 (.t 152)⟩,
                 ⟨some 154, some (139, true), .load 1 false (.t 153)⟩,
                 ⟨some 155, some (139, true), .call false 21 [(.t 148), (.t 154)]⟩,
                 ⟨some 156, some (139, true), .beq true (.t 147) (.t 155)⟩,
                 ⟨some 157, none, .pick (.t 139) (.t 156) (.c (.bool false))⟩])
                (.cond (.t 157)
                 (.seq
                  (.reg [⟨some 2, none, .mov (.c (.bool false))⟩])
                  .ret)
                 .skip)))
              (.reg [⟨some 130, none, .mov (.t 10)⟩,
               ⟨some 131, none, .bin .add (.t 130) (.c (.int .i64 1))⟩,
               ⟨some 10, none, .mov (.t 131)⟩])))
def c5b1 : AC := (.seq
            (.seq
             (.reg [⟨some 110, none, .mov (.t 9)⟩,
              ⟨some 111, none, .mov (.t 4)⟩,
              ⟨some 112, none, .len (.t 111)⟩,
              ⟨some 113, none, .bin .lss (.t 110) (.t 112)⟩])
             (.cond (.t 113)
              .skip
              (.exit 4)))
            (.seq
             (.block 5
              (.seq
               (.reg [⟨some 116, none, .mov (.t 4)⟩,
                ⟨some 117, none, .mov (.t 9)⟩,
                ⟨some 118, none, .bin .sub (.t 117) (.c (.int .i64 1))⟩,
                ⟨some 119, none, .iaddr (.slice 1) (.t 116) (.t 118)⟩,
                ⟨some 120, none, .load 1 false (.t 119)⟩,
                ⟨some 121, none, .mov (.t 4)⟩,
                ⟨some 122, none, .mov (.t 9)⟩,
                ⟨some 123, none, .iaddr (.slice 1) (.t 121) (.t 122)⟩,
                ⟨some 124, none, .load 1 false (.t 123)⟩,
                ⟨some 125, none, .bin .geq (.t 120) (.t 124)⟩])
               (.cond (.t 125)
                (.seq
                 (.reg [⟨some 2, none, .mov (.c (.bool false))⟩])
                 .ret)
                .skip)))
             (.reg [⟨some 114, none, .mov (.t 9)⟩,
              ⟨some 115, none, .bin .add (.t 114) (.c (.int .i64 1))⟩,
              ⟨some 9, none, .mov (.t 115)⟩])))
def c5b2 : AC := (.seq
                   (.seq
                    (.reg [⟨some 25, none, .mov (.t 8)⟩,
                     ⟨some 26, none, .mov (.t 6)⟩,
                     ⟨some 27, none, .bin .lss (.t 25) (.t 26)⟩])
                    (.cond (.t 27)
                     .skip
                     (.exit 2)))
                   (.seq
                    (.block 3
                     (.seq
                      (.reg [⟨some 30, none, .mov (.t 0)⟩,
                       ⟨some 31, none, .mov (.t 8)⟩,
                       ⟨some 32, none, .iaddr (.slice 10) (.t 30) (.t 31)⟩,
                       ⟨some 33, none, .faddr 2 (.t 32)⟩,
                       ⟨some 34, none, .faddr 1 (.t 33)⟩,
                       ⟨some 35, none, .load 1 false (.t 34)⟩,
                       ⟨some 36, none, .bin .eql (.t 35) (.c (.int .i64 6))⟩,
                       ⟨some 37, none, .mov (.t 36)⟩,
                       ⟨some 38, some (37, true), .mov (.t 0)⟩,
                       ⟨some 39, some (37, true), .mov (.t 8)⟩,
                       ⟨some 40, some (37, true), .iaddr (.slice 10) (.t 38) (.t 39)⟩,
                       ⟨some 41, some (37, true), .faddr 2 (.t 40)⟩,
                       ⟨some 42, some (37, true), .faddr 3 (.t 41)⟩,
                       ⟨some 43, some (37, true), .load 1 false (.t 42)⟩,
                       ⟨some 44, some (37, true), .mov (.t 0)⟩,
                       ⟨some 45, some (37, true), .mov (.t 6)⟩,
                       ⟨some 46, some (37, true), .iaddr (.slice 10) (.t 44) (.t 45)⟩,
                       ⟨some 47, some (37, true), .faddr 2 (.t 46)⟩,
                       ⟨some 48, some (37, true), .faddr 3 (.t 47)⟩,
                       ⟨some 49, some (37, true), .load 1 false (.t 48)⟩,
                       ⟨some 50, some (37, true), .bin .eql (.t 43) (.t 49)⟩,
                       ⟨some 51, none, .pick (.t 37) (.t 50) (.c (.bool false))⟩])
                      (.cond (.t 51)
                       (.reg [⟨some 52, none, .mov (.t 8)⟩,
                        ⟨some 7, none, .mov (.t 52)⟩])
                       .skip)))
                    (.reg [⟨some 28, none, .mov (.t 8)⟩,
                     ⟨some 29, none, .bin .add (.t 28) (.c (.int .i64 1))⟩,
                     ⟨some 8, none, .mov (.t 29)⟩])))
def c5b3 : AC := (.seq
           (.seq
            (.reg [⟨some 19, none, .mov (.t 6)⟩,
             ⟨some 20, none, .mov (.t 0)⟩,
             ⟨some 21, none, .len (.t 20)⟩,
             ⟨some 22, none, .bin .lss (.t 19) (.t 21)⟩])
            (.cond (.t 22)
             .skip
             (.exit 0)))
           (.seq
            (.block 1
             (.seq
              (.reg [⟨some 7, none, .mov (.c (.int .i64 (-1)))⟩])
              (.seq
               (.seq
                (.reg [⟨some 8, none, .mov (.c (.int .i64 0))⟩])
                (.block 2
                 (.loop [0, 3, 4, 5, 6, 7, 8]
                  c5b2)))
               (.seq
                (.seq
                 (.reg [⟨some 53, none, .mov (.t 0)⟩,
                  ⟨some 54, none, .mov (.t 6)⟩,
                  ⟨some 55, none, .iaddr (.slice 10) (.t 53) (.t 54)⟩,
                  ⟨some 56, none, .faddr 2 (.t 55)⟩,
                  ⟨some 57, none, .faddr 1 (.t 56)⟩,
                  ⟨some 58, none, .load 1 false (.t 57)⟩,
                  ⟨some 59, none, .bin .neq (.t 58) (.c (.int .i64 7))⟩,
                  ⟨some 60, none, .mov (.t 59)⟩,
                  ⟨some 61, some (60, false), .mov (.t 7)⟩,
                  ⟨some 62, some (60, false), .bin .lss (.t 61) (.c (.int .i64 0))⟩,
                  ⟨some 63, none, .pick (.t 60) (.c (.bool true)) (.t 62)⟩])
                 (.cond (.t 63)
                  (.exit 1)
                  .skip))
                (.seq
                 (.seq
                  (.reg [⟨some 64, none, .mov (.t 5)⟩,
                   ⟨some 65, none, .mov (.t 3)⟩,
                   ⟨some 66, none, .len (.t 65)⟩,
                   ⟨some 67, none, .bin .geq (.t 64) (.t 66)⟩,
                   ⟨some 68, none, .mov (.t 67)⟩,
                   ⟨some 69, some (68, false), .mov (.t 3)⟩,
                   ⟨some 70, some (68, false), .mov (.t 5)⟩,
                   ⟨some 71, some (68, false), .iaddr (.slice 7) (.t 69) (.t 70)⟩,
                   ⟨some 72, some (68, false), .faddr 0 (.t 71)⟩,
                   ⟨some 73, some (68, false), .load 1 false (.t 72)⟩,
                   ⟨some 74, some (68, false), .mov (.t 0)⟩,
                   ⟨some 75, some (68, false), .mov (.t 6)⟩,
                   ⟨some 76, some (68, false), .iaddr (.slice 10) (.t 74) (.t 75)⟩,
                   ⟨some 77, some (68, false), .faddr 2 (.t 76)⟩,
                   ⟨some 78, some (68, false), .faddr 3 (.t 77)⟩,
                   ⟨some 79, some (68, false), .load 1 false (.t 78)⟩,
                   ⟨some 80, some (68, false), .bin .neq (.t 73) (.t 79)⟩,
                   ⟨some 81, none, .pick (.t 68) (.c (.bool true)) (.t 80)⟩,
                   ⟨some 82, none, .mov (.t 81)⟩,
                   ⟨some 83, some (82, false), .mov (.t 3)⟩,
                   ⟨some 84, some (82, false), .mov (.t 5)⟩,
                   ⟨some 85, some (82, false), .iaddr (.slice 7) (.t 83) (.t 84)⟩,
                   ⟨some 86, some (82, false), .faddr 3 (.t 85)⟩,
                   ⟨some 87, some (82, false), .load 2 true (.t 86)⟩,
                   ⟨some 88, some (82, false), .mov (.t 0)⟩,
                   ⟨some 89, some (82, false), .mov (.t 6)⟩,
                   ⟨some 90, some (82, false), .iaddr (.slice 10) (.t 88) (.t 89)⟩,
                   ⟨some 91, some (82, false), .faddr 0 (.t 90)⟩,
                   ⟨some 92, some (82, false), .load 2 true (.t 91)⟩,
                   ⟨some 93, some (82, false), .beqA true [.i, .i] (.t 87) (.t 92)⟩,
                   ⟨some 94, none, .pick (.t 82) (.c (.bool true)) (.t 93)⟩,
                   ⟨some 95, none, .mov (.t 94)⟩,
                   ⟨some 96, some (95, false), .mov (.t 3)⟩,
                   ⟨some 97, some (95, false), .mov (.t 5)⟩,
                   ⟨some 98, some (95, false), .iaddr (.slice 7) (.t 96) (.t 97)⟩,
                   ⟨some 99, some (95, false), .faddr 1 (.t 98)⟩,
                   ⟨some 100, some (95, false), .load 2 true (.t 99)⟩,
                   ⟨some 101, some (95, false), .mov (.t 0)⟩,
                   ⟨some 102, some (95, false), .mov (.t 7)⟩,
                   ⟨some 103, some (95, false), .iaddr (.slice 10) (.t 101) (.t 102)⟩,
                   ⟨some 104, some (95, false), .faddr 0 (.t 103)⟩,
                   ⟨some 105, some (95, false), .load 2 true (.t 104)⟩,
                   ⟨some 106, some (95, false), .beqA true [.i, .i] (.t 100) (.t 105)⟩,
                   ⟨some 107, none, .pick (.t 95) (.c (.bool true)) (.t 106)⟩])
                  (.cond (.t 107)
                   (.seq
                    (.reg [⟨some 2, none, .mov (.c (.bool false))⟩])
                    .ret)
                   .skip))
                 (.reg [⟨some 108, none, .mov (.t 5)⟩,
                  ⟨some 109, none, .bin .add (.t 108) (.c (.int .i64 1))⟩,
                  ⟨some 5, none, .mov (.t 109)⟩]))))))
            (.reg [⟨some 23, none, .mov (.t 6)⟩,
             ⟨some 24, none, .bin .add (.t 23) (.c (.int .i64 1))⟩,
             ⟨some 6, none, .mov (.t 24)⟩])))
def c5r0 : AC := (.seq
          (.reg [⟨some 158, none, .mov (.t 5)⟩,
           ⟨some 159, none, .mov (.t 3)⟩,
           ⟨some 160, none, .len (.t 159)⟩,
           ⟨some 161, none, .bin .eql (.t 158) (.t 160)⟩,
           ⟨some 162, none, .mov (.t 161)⟩,
           ⟨some 163, some (162, true), .call false 9 []⟩,
           ⟨some 164, none, .pick (.t 162) (.t 163) (.c (.bool false))⟩,
           ⟨some 2, none, .mov (.t 164)⟩])
          .ret)
def c5r1 : AC := (.seq
         (.seq
          (.reg [⟨some 10, none, .mov (.c (.int .i64 0))⟩])
          (.block 6
           (.loop [0, 3, 4, 5, 10]
            c5b0)))
         c5r0)
def c5r2 : AC := (.seq
        (.seq
         (.reg [⟨some 9, none, .mov (.c (.int .i64 1))⟩])
         (.block 4
          (.loop [0, 3, 4, 5, 9]
           c5b1)))
        c5r1)
/-- tracebook/tracebooklaw28.FlowEnds -/
def c5 : AFn := ⟨1, 165, [.t 2],
 (.seq
  (.reg [⟨some 2, none, .mov (.c (.bool false))⟩])
  (.seq
   (.seq
    (.reg [⟨some 11, none, .mov (.t 0)⟩,
     ⟨some 12, none, .len (.t 11)⟩,
     ⟨some 13, none, .bin .gtr (.t 12) (.c (.int .i64 300))⟩])
    (.cond (.t 13)
     (.seq
      (.reg [⟨some 14, none, .call false 9 []⟩,
       ⟨some 2, none, .mov (.t 14)⟩])
      .ret)
     .skip))
   (.seq
    (.reg [⟨some 15, none, .mov (.t 0)⟩,
     ⟨some 16, none, .call false 11 [(.t 15)]⟩,
     ⟨some 3, none, .mov (.t 16)⟩])
    (.seq
     (.reg [⟨some 17, none, .mov (.t 0)⟩,
      ⟨some 18, none, .call false 14 [(.t 17)]⟩,
      ⟨some 4, none, .mov (.t 18)⟩])
     (.seq
      (.reg [⟨some 5, none, .mov (.c (.int .i64 0))⟩])
      (.seq
       (.seq
        (.reg [⟨some 6, none, .mov (.c (.int .i64 0))⟩])
        (.block 0
         (.loop [0, 3, 4, 5, 6]
          c5b3)))
       c5r2)))))), none⟩
def k5 : List (List Nat) := [[0, 3, 4, 5, 6], [0, 3, 4, 5, 6, 7, 8], [0, 3, 4, 5, 9], [0, 3, 4, 5, 10]]
def o5 : List Nat := [3000000]
/-- tracebook/tracebooklaw28.FlowGrows -/
def c6 : AFn := ⟨2, 38, [.t 4],
 (.seq
  (.reg [⟨some 4, none, .mov (.c (.bool false))⟩])
  (.seq
   (.seq
    (.reg [⟨some 7, none, .mov (.t 0)⟩,
     ⟨some 8, none, .len (.t 7)⟩,
     ⟨some 9, none, .bin .gtr (.t 8) (.c (.int .i64 300))⟩])
    (.cond (.t 9)
     (.seq
      (.reg [⟨some 10, none, .call false 9 []⟩,
       ⟨some 4, none, .mov (.t 10)⟩])
      .ret)
     .skip))
   (.seq
    (.reg [⟨some 11, none, .mov (.t 0)⟩,
     ⟨some 12, none, .call false 11 [(.t 11)]⟩,
     ⟨some 5, none, .mov (.t 12)⟩])
    (.seq
     (.reg [⟨some 13, none, .mov (.t 0)⟩,
      ⟨some 14, none, .mov (.t 1)⟩,
      ⟨some 15, none, .conv (.int .i64) (.t 14)⟩,
      ⟨some 16, none, .mov (.t 0)⟩,
      ⟨some 17, none, .len (.t 16)⟩,
      ⟨some 18, none, .bin .add (.t 17) (.c (.int .i64 1))⟩,
      ⟨some 19, none, .bin .rem (.t 15) (.t 18)⟩,
      ⟨some 20, none, .slc (.slice 10) (.t 13) none (some (.t 19)) none⟩,
      ⟨some 21, none, .call false 11 [(.t 20)]⟩,
      ⟨some 6, none, .mov (.t 21)⟩])
     (.seq
      (.reg [⟨some 22, none, .mov (.t 6)⟩,
       ⟨some 23, none, .len (.t 22)⟩,
       ⟨some 24, none, .mov (.t 5)⟩,
       ⟨some 25, none, .len (.t 24)⟩,
       ⟨some 26, none, .bin .leq (.t 23) (.t 25)⟩,
       ⟨some 27, none, .mov (.t 26)⟩,
       ⟨some 28, some (27, true), .mov (.t 6)⟩,
       ⟨some 29, some (27, true), .mov (.t 5)⟩,
       ⟨some 30, some (27, true), .mov (.t 6)⟩,
       ⟨some 31, some (27, true), .len (.t 30)⟩,
       ⟨some 32, some (27, true), .slc (.slice 7) (.t 29) none (some (.t 31)) none⟩,
       ⟨some 33, some (27, true), .call false 10 [(.t 28), (.t 32)]⟩,
       ⟨some 34, none, .pick (.t 27) (.t 33) (.c (.bool false))⟩,
       ⟨some 35, none, .mov (.t 34)⟩,
       ⟨some 36, some (35, true), .call false 9 []⟩,
       ⟨some 37, none, .pick (.t 35) (.t 36) (.c (.bool false))⟩,
       ⟨some 4, none, .mov (.t 37)⟩])
      .ret))))), none⟩
def k6 : List (List Nat) := []
def o6 : List Nat := [3000000]
def c7b0 : AC := (.seq
        (.seq
         (.reg [⟨some 9, none, .mov (.t 3)⟩,
          ⟨some 10, none, .mov (.t 0)⟩,
          ⟨some 11, none, .len (.t 10)⟩,
          ⟨some 12, none, .bin .lss (.t 9) (.t 11)⟩])
         (.cond (.t 12)
          .skip
          (.exit 0)))
        (.seq
         (.block 1
          (.seq
           (.reg [⟨some 15, none, .mov (.t 0)⟩,
            ⟨some 16, none, .mov (.t 3)⟩,
            ⟨some 17, none, .iaddr (.slice 10) (.t 15) (.t 16)⟩,
            ⟨some 18, none, .load 10 true (.t 17)⟩,
            ⟨some 4, none, .alloc [(.int .i64 0), (.int .i64 0), (.int .i64 0), (.int .i64 0), (.str []), (.int .i64 0), (.int .i64 0), .nilS, (.int .i64 0), (.int .i64 0)]⟩,
            ⟨none, none, .store 10 (.t 4) (.t 18)⟩])
           (.seq
            (.reg [⟨some 19, none, .faddr 0 (.t 4)⟩,
             ⟨some 20, none, .faddr 0 (.t 19)⟩,
             ⟨some 21, none, .load 1 false (.t 20)⟩,
             ⟨some 22, none, .bin .lss (.t 21) (.c (.int .i64 0))⟩,
             ⟨some 23, none, .mov (.t 22)⟩,
             ⟨some 24, some (23, false), .faddr 0 (.t 4)⟩,
             ⟨some 25, some (23, false), .faddr 0 (.t 24)⟩,
             ⟨some 26, some (23, false), .load 1 false (.t 25)⟩,
             ⟨some 27, some (23, false), .bin .gtr (.t 26) (.c (.int .i64 1000000000000000))⟩,
             ⟨some 28, none, .pick (.t 23) (.c (.bool true)) (.t 27)⟩,
             ⟨some 29, none, .mov (.t 28)⟩,
             ⟨some 30, some (29, false), .faddr 0 (.t 4)⟩,
             ⟨some 31, some (29, false), .faddr 1 (.t 30)⟩,
             ⟨some 32, some (29, false), .load 1 false (.t 31)⟩,
             ⟨some 33, some (29, false), .bin .lss (.t 32) (.c (.int .i64 0))⟩,
             ⟨some 34, none, .pick (.t 29) (.c (.bool true)) (.t 33)⟩,
             ⟨some 35, none, .mov (.t 34)⟩,
             ⟨some 36, some (35, false), .faddr 0 (.t 4)⟩,
             ⟨some 37, some (35, false), .faddr 1 (.t 36)⟩,
             ⟨some 38, some (35, false), .load 1 false (.t 37)⟩,
             ⟨some 39, some (35, false), .bin .gtr (.t 38) (.c (.int .i64 1000000000000000))⟩,
             ⟨some 40, none, .pick (.t 35) (.c (.bool true)) (.t 39)⟩,
             ⟨some 41, none, .mov (.t 40)⟩,
             ⟨some 42, some (41, false), .faddr 2 (.t 4)⟩,
             ⟨some 43, some (41, false), .faddr 3 (.t 42)⟩,
             ⟨some 44, some (41, false), .load 1 false (.t 43)⟩,
             ⟨some 45, some (41, false), .bin .lss (.t 44) (.c (.int .i64 0))⟩,
             ⟨some 46, none, .pick (.t 41) (.c (.bool true)) (.t 45)⟩,
             ⟨some 47, none, .mov (.t 46)⟩,
             ⟨some 48, some (47, false), .faddr 2 (.t 4)⟩,
             ⟨some 49, some (47, false), .faddr 3 (.t 48)⟩,
             ⟨some 50, some (47, false), .load 1 false (.t 49)⟩,
             ⟨some 51, some (47, false), .bin .gtr (.t 50) (.c (.int .i64 1000000000000000))⟩,
             ⟨some 52, none, .pick (.t 47) (.c (.bool true)) (.t 51)⟩,
             ⟨some 53, none, .mov (.t 52)⟩,
             ⟨some 54, some (53, false), .mov (.t 3)⟩,
             ⟨some 55, some (53, false), .bin .gtr (.t 54) (.c (.int .i64 0))⟩,
             ⟨some 56, some (53, false), .mov (.t 55)⟩,
             ⟨some 57, some (56, true), .load 10 true (.t 4)⟩,
             ⟨some 58, some (56, true), .call false 22 [(.t 57)]⟩,
             ⟨some 59, some (56, true), .mov (.t 0)⟩,
             ⟨some 60, some (56, true), .mov (.t 3)⟩,
             ⟨some 61, some (56, true), .bin .sub (.t 60) (.c (.int .i64 1))⟩,
             ⟨some 62, some (56, true), .iaddr (.slice 10) (.t 59) (.t 61)⟩,
             ⟨some 63, some (56, true), .load 10 true (.t 62)⟩,
             ⟨some 64, some (56, true), .call false 22 [(.t 63)]⟩,
             ⟨some 65, some (56, true), .bin .lss (.t 58) (.t 64)⟩,
             ⟨some 66, some (53, false), .pick (.t 56) (.t 65) (.c (.bool false))⟩,
             ⟨some 67, none, .pick (.t 53) (.c (.bool true)) (.t 66)⟩])
            (.cond (.t 67)
             (.seq
              (.reg [⟨some 68, none, .call false 9 []⟩,
               ⟨some 2, none, .mov (.t 68)⟩])
              .ret)
             .skip))))
         (.reg [⟨some 13, none, .mov (.t 3)⟩,
          ⟨some 14, none, .bin .add (.t 13) (.c (.int .i64 1))⟩,
          ⟨some 3, none, .mov (.t 14)⟩])))
def c7r0 : AC := (.seq
     (.reg [⟨some 69, none, .mov (.t 0)⟩,
      ⟨some 70, none, .call false 11 [(.t 69)]⟩,
      ⟨some 71, none, .call false 16 [(.t 70)]⟩,
      ⟨some 72, none, .bin .eql (.t 71) (.c (.int .i64 0))⟩,
      ⟨some 73, none, .mov (.t 72)⟩,
      ⟨some 74, some (73, true), .call false 9 []⟩,
      ⟨some 75, none, .pick (.t 73) (.t 74) (.c (.bool false))⟩,
      ⟨some 2, none, .mov (.t 75)⟩])
     .ret)
/-- tracebook/tracebooklaw28.FlowAccepts -/
def c7 : AFn := ⟨1, 76, [.t 2],
 (.seq
  (.reg [⟨some 2, none, .mov (.c (.bool false))⟩])
  (.seq
   (.seq
    (.reg [⟨some 5, none, .mov (.t 0)⟩,
     ⟨some 6, none, .len (.t 5)⟩,
     ⟨some 7, none, .bin .gtr (.t 6) (.c (.int .i64 300))⟩])
    (.cond (.t 7)
     (.seq
      (.reg [⟨some 8, none, .call false 9 []⟩,
       ⟨some 2, none, .mov (.t 8)⟩])
      .ret)
     .skip))
   (.seq
    (.seq
     (.reg [⟨some 3, none, .mov (.c (.int .i64 0))⟩])
     (.block 0
      (.loop [0, 3]
       c7b0)))
    c7r0))), none⟩
def k7 : List (List Nat) := [[0, 3]]
def o7 : List Nat := [3000000]
def c8b0 : AC := (.seq
                 (.seq
                  (.reg [⟨some 31, none, .mov (.t 6)⟩,
                   ⟨some 32, none, .mov (.t 0)⟩,
                   ⟨some 33, none, .len (.t 32)⟩,
                   ⟨some 34, none, .bin .lss (.t 31) (.t 33)⟩])
                  (.cond (.t 34)
                   .skip
                   (.exit 2)))
                 (.seq
                  (.block 3
                   (.seq
                    (.seq
                     (.reg [⟨some 37, none, .mov (.t 0)⟩,
                      ⟨some 38, none, .mov (.t 6)⟩,
                      ⟨some 39, none, .iaddr (.slice 7) (.t 37) (.t 38)⟩,
                      ⟨some 40, none, .faddr 1 (.t 39)⟩,
                      ⟨some 41, none, .faddr 0 (.t 40)⟩,
                      ⟨some 42, none, .load 1 false (.t 41)⟩,
                      ⟨some 43, none, .mov (.t 0)⟩,
                      ⟨some 44, none, .mov (.t 3)⟩,
                      ⟨some 45, none, .iaddr (.slice 7) (.t 43) (.t 44)⟩,
                      ⟨some 46, none, .faddr 1 (.t 45)⟩,
                      ⟨some 47, none, .faddr 0 (.t 46)⟩,
                      ⟨some 48, none, .load 1 false (.t 47)⟩,
                      ⟨some 49, none, .bin .neq (.t 42) (.t 48)⟩,
                      ⟨some 50, none, .mov (.t 49)⟩,
                      ⟨some 51, some (50, false), .mov (.t 0)⟩,
                      ⟨some 52, some (50, false), .mov (.t 6)⟩,
                      ⟨some 53, some (50, false), .iaddr (.slice 7) (.t 51) (.t 52)⟩,
                      ⟨some 54, some (50, false), .faddr 3 (.t 53)⟩,
                      ⟨some 55, some (50, false), .faddr 0 (.t 54)⟩,
                      ⟨some 56, some (50, false), .load 1 false (.t 55)⟩,
                      ⟨some 57, some (50, false), .mov (.t 0)⟩,
                      ⟨some 58, some (50, false), .mov (.t 3)⟩,
                      ⟨some 59, some (50, false), .iaddr (.slice 7) (.t 57) (.t 58)⟩,
                      ⟨some 60, some (50, false), .faddr 3 (.t 59)⟩,
                      ⟨some 61, some (50, false), .faddr 0 (.t 60)⟩,
                      ⟨some 62, some (50, false), .load 1 false (.t 61)⟩,
                      ⟨some 63, some (50, false), .bin .neq (.t 56) (.t 62)⟩,
                      ⟨some 64, none, .pick (.t 50) (.c (.bool true)) (.t 63)⟩])
                     (.cond (.t 64)
                      (.exit 3)
                      .skip))
                    (.seq
                     (.seq
                      (.reg [⟨some 65, none, .mov (.t 5)⟩,
                       ⟨some 66, none, .mov (.t 4)⟩,
                       ⟨some 67, none, .len (.t 66)⟩,
                       ⟨some 68, none, .bin .geq (.t 65) (.t 67)⟩,
                       ⟨some 69, none, .mov (.t 68)⟩,
                       ⟨some 70, some (69, false), .mov (.t 4)⟩,
                       ⟨some 71, some (69, false), .mov (.t 5)⟩,
                       ⟨some 72, some (69, false), .iaddr (.slice 7) (.t 70) (.t 71)⟩,
                       ⟨some 73, some (69, false), .load 7 true (.t 72)⟩,
                       ⟨some 74, some (69, false), .mov (.t 0)⟩,
                       ⟨some 75, some (69, false), .mov (.t 6)⟩,
                       ⟨some 76, some (69, false), .iaddr (.slice 7) (.t 74) (.t 75)⟩,
                       ⟨some 77, some (69, false), .load 7 true (.t 76)⟩,
                       ⟨some 78, some (69, false), .beqA true [.i, .i, .i, .i, .i, .i, .i] (.t 73) (.t 77)⟩,
                       ⟨some 79, none, .pick (.t 69) (.c (.bool true)) (.t 78)⟩])
                      (.cond (.t 79)
                       (.seq
                        (.reg [⟨some 2, none, .mov (.c (.bool false))⟩])
                        .ret)
                       .skip))
                     (.reg [⟨some 80, none, .mov (.t 5)⟩,
                      ⟨some 81, none, .bin .add (.t 80) (.c (.int .i64 1))⟩,
                      ⟨some 5, none, .mov (.t 81)⟩]))))
                  (.reg [⟨some 35, none, .mov (.t 6)⟩,
                   ⟨some 36, none, .bin .add (.t 35) (.c (.int .i64 1))⟩,
                   ⟨some 6, none, .mov (.t 36)⟩])))
def c8b1 : AC := (.seq
        (.seq
         (.reg [⟨some 11, none, .mov (.t 3)⟩,
          ⟨some 12, none, .mov (.t 0)⟩,
          ⟨some 13, none, .len (.t 12)⟩,
          ⟨some 14, none, .bin .lss (.t 11) (.t 13)⟩])
         (.cond (.t 14)
          .skip
          (.exit 0)))
        (.seq
         (.block 1
          (.seq
           (.reg [⟨some 17, none, .mov (.t 0)⟩,
            ⟨some 18, none, .mov (.t 0)⟩,
            ⟨some 19, none, .mov (.t 3)⟩,
            ⟨some 20, none, .iaddr (.slice 7) (.t 18) (.t 19)⟩,
            ⟨some 21, none, .faddr 1 (.t 20)⟩,
            ⟨some 22, none, .faddr 0 (.t 21)⟩,
            ⟨some 23, none, .load 1 false (.t 22)⟩,
            ⟨some 24, none, .mov (.t 0)⟩,
            ⟨some 25, none, .mov (.t 3)⟩,
            ⟨some 26, none, .iaddr (.slice 7) (.t 24) (.t 25)⟩,
            ⟨some 27, none, .faddr 3 (.t 26)⟩,
            ⟨some 28, none, .faddr 0 (.t 27)⟩,
            ⟨some 29, none, .load 1 false (.t 28)⟩,
            ⟨some 30, none, .call false 18 [(.t 17), (.t 23), (.t 29)]⟩,
            ⟨some 4, none, .mov (.t 30)⟩])
           (.seq
            (.reg [⟨some 5, none, .mov (.c (.int .i64 0))⟩])
            (.seq
             (.seq
              (.reg [⟨some 6, none, .mov (.c (.int .i64 0))⟩])
              (.block 2
               (.loop [0, 3, 4, 5, 6]
                c8b0)))
             (.seq
              (.reg [⟨some 82, none, .mov (.t 5)⟩,
               ⟨some 83, none, .mov (.t 4)⟩,
               ⟨some 84, none, .len (.t 83)⟩,
               ⟨some 85, none, .bin .neq (.t 82) (.t 84)⟩])
              (.cond (.t 85)
               (.seq
                (.reg [⟨some 2, none, .mov (.c (.bool false))⟩])
                .ret)
               .skip))))))
         (.reg [⟨some 15, none, .mov (.t 3)⟩,
          ⟨some 16, none, .bin .add (.t 15) (.c (.int .i64 1))⟩,
          ⟨some 3, none, .mov (.t 16)⟩])))
def c8r0 : AC := (.seq
     (.reg [⟨some 86, none, .call false 9 []⟩,
      ⟨some 2, none, .mov (.t 86)⟩])
     .ret)
/-- tracebook/tracebooklaw28.FlowDivides -/
def c8 : AFn := ⟨1, 87, [.t 2],
 (.seq
  (.reg [⟨some 2, none, .mov (.c (.bool false))⟩])
  (.seq
   (.seq
    (.reg [⟨some 7, none, .mov (.t 0)⟩,
     ⟨some 8, none, .len (.t 7)⟩,
     ⟨some 9, none, .bin .gtr (.t 8) (.c (.int .i64 100))⟩])
    (.cond (.t 9)
     (.seq
      (.reg [⟨some 10, none, .call false 9 []⟩,
       ⟨some 2, none, .mov (.t 10)⟩])
      .ret)
     .skip))
   (.seq
    (.seq
     (.reg [⟨some 3, none, .mov (.c (.int .i64 0))⟩])
     (.block 0
      (.loop [0, 3]
       c8b1)))
    c8r0))), none⟩
def k8 : List (List Nat) := [[0, 3], [0, 3, 4, 5, 6]]
def o8 : List Nat := [3000000]
/-- tracebook/tracebooklaw28.awake -/
def c9 : AFn := ⟨0, 93, [.t 0],
 (.seq
  (.reg [⟨some 0, none, .mov (.c (.bool false))⟩])
  (.seq
   (.reg [⟨some 6, none, .call false 23 [(.c (.int .i64 1)), (.c (.int .i64 0)), (.c (.int .i64 10)), (.c (.int .i64 6)), (.c (.int .i64 7))]⟩,
    ⟨some 7, none, .call false 23 [(.c (.int .i64 2)), (.c (.int .i64 0)), (.c (.int .i64 12)), (.c (.int .i64 7)), (.c (.int .i64 7))]⟩,
    ⟨some 8, none, .call false 23 [(.c (.int .i64 3)), (.c (.int .i64 4)), (.c (.int .i64 15)), (.c (.int .i64 7)), (.c (.int .i64 7))]⟩,
    ⟨some 9, none, .bslice false 10 [(.int .i64 0), (.int .i64 0), (.int .i64 0), (.int .i64 0), (.str []), (.int .i64 0), (.int .i64 0), .nilS, (.int .i64 0), (.int .i64 0)] 3 [(0, (.t 6)), (1, (.t 7)), (2, (.t 8))]⟩,
    ⟨some 1, none, .mov (.t 9)⟩])
   (.seq
    (.reg [⟨some 10, none, .call false 23 [(.c (.int .i64 1)), (.c (.int .i64 0)), (.c (.int .i64 10)), (.c (.int .i64 7)), (.c (.int .i64 8))]⟩,
     ⟨some 11, none, .call false 23 [(.c (.int .i64 2)), (.c (.int .i64 0)), (.c (.int .i64 12)), (.c (.int .i64 6)), (.c (.int .i64 8))]⟩,
     ⟨some 12, none, .bslice false 10 [(.int .i64 0), (.int .i64 0), (.int .i64 0), (.int .i64 0), (.str []), (.int .i64 0), (.int .i64 0), .nilS, (.int .i64 0), (.int .i64 0)] 2 [(0, (.t 10)), (1, (.t 11))]⟩,
     ⟨some 2, none, .mov (.t 12)⟩])
    (.seq
     (.reg [⟨some 13, none, .mov (.t 1)⟩,
      ⟨some 14, none, .call false 11 [(.t 13)]⟩,
      ⟨some 3, none, .mov (.t 14)⟩])
     (.seq
      (.reg [⟨some 15, none, .mov (.t 2)⟩,
       ⟨some 16, none, .call false 14 [(.t 15)]⟩,
       ⟨some 4, none, .mov (.t 16)⟩])
      (.seq
       (.reg [⟨some 17, none, .mov (.t 3)⟩,
        ⟨some 18, none, .call false 18 [(.t 17), (.c (.int .i64 1)), (.c (.int .i64 3))]⟩,
        ⟨some 5, none, .mov (.t 18)⟩])
       (.seq
        (.reg [⟨some 19, none, .mov (.t 3)⟩,
         ⟨some 20, none, .len (.t 19)⟩,
         ⟨some 21, none, .bin .eql (.t 20) (.c (.int .i64 2))⟩,
         ⟨some 22, none, .mov (.t 21)⟩,
         ⟨some 23, some (22, true), .mov (.t 3)⟩,
         ⟨some 24, some (22, true), .iaddr (.slice 7) (.t 23) (.c (.int .i64 0))⟩,
         ⟨some 25, some (22, true), .load 7 true (.t 24)⟩,
         ⟨some 26, some (22, true), .build [(.int .i64 0), (.int .i64 0)] [(0, 1, (.c (.int .i64 1)))]⟩,
         ⟨some 27, some (22, true), .build [(.int .i64 0), (.int .i64 0)] [(0, 1, (.c (.int .i64 2)))]⟩,
         ⟨some 28, some (22, true), .build [(.int .i64 0), (.int .i64 0), (.int .i64 0), (.int .i64 0), (.int .i64 0), (.int .i64 0), (.int .i64 0)] [(0, 1, (.c (.int .i64 7))), (1, 2, (.t 26)), (3, 2, (.t 27)), (5, 1, (.c (.int .i64 10))), (6, 1, (.c (.int .i64 12)))]⟩,
         ⟨some 29, some (22, true), .beqA false [.i, .i, .i, .i, .i, .i, .i] (.t 25) (.t 28)⟩,
         ⟨some 30, none, .pick (.t 22) (.t 29) (.c (.bool false))⟩,
         ⟨some 31, none, .mov (.t 30)⟩,
         ⟨some 32, some (31, true), .mov (.t 3)⟩,
         ⟨some 33, some (31, true), .iaddr (.slice 7) (.t 32) (.c (.int .i64 1))⟩,
         ⟨some 34, some (31, true), .load 7 true (.t 33)⟩,
         ⟨some 35, some (31, true), .build [(.int .i64 0), (.int .i64 0)] [(0, 1, (.c (.int .i64 1)))]⟩,
         ⟨some 36, some (31, true), .build [(.int .i64 0), (.int .i64 0)] [(0, 1, (.c (.int .i64 3))), (1, 1, (.c (.int .i64 4)))]⟩,
         ⟨some 37, some (31, true), .build [(.int .i64 0), (.int .i64 0), (.int .i64 0), (.int .i64 0), (.int .i64 0), (.int .i64 0), (.int .i64 0)] [(0, 1, (.c (.int .i64 7))), (1, 2, (.t 35)), (3, 2, (.t 36)), (5, 1, (.c (.int .i64 10))), (6, 1, (.c (.int .i64 15)))]⟩,
         ⟨some 38, some (31, true), .beqA false [.i, .i, .i, .i, .i, .i, .i] (.t 34) (.t 37)⟩,
         ⟨some 39, none, .pick (.t 31) (.t 38) (.c (.bool false))⟩,
         ⟨some 40, none, .mov (.t 39)⟩,
         ⟨some 41, some (40, true), .mov (.t 1)⟩,
         ⟨some 42, some (40, true), .call false 14 [(.t 41)]⟩,
         ⟨some 43, some (40, true), .len (.t 42)⟩,
         ⟨some 44, some (40, true), .bin .eql (.t 43) (.c (.int .i64 0))⟩,
         ⟨some 45, none, .pick (.t 40) (.t 44) (.c (.bool false))⟩,
         ⟨some 46, none, .mov (.t 45)⟩,
         ⟨some 47, some (46, true), .mov (.t 3)⟩,
         ⟨some 48, some (46, true), .call false 16 [(.t 47)]⟩,
         ⟨some 49, some (46, true), .bin .eql (.t 48) (.c (.int .i64 0))⟩,
         ⟨some 50, none, .pick (.t 46) (.t 49) (.c (.bool false))⟩,
         ⟨some 51, none, .mov (.t 50)⟩,
         ⟨some 52, some (51, true), .mov (.t 2)⟩,
         ⟨some 53, some (51, true), .call false 11 [(.t 52)]⟩,
         ⟨some 54, some (51, true), .len (.t 53)⟩,
         ⟨some 55, some (51, true), .bin .eql (.t 54) (.c (.int .i64 0))⟩,
         ⟨some 56, none, .pick (.t 51) (.t 55) (.c (.bool false))⟩,
         ⟨some 57, none, .mov (.t 56)⟩,
         ⟨some 58, some (57, true), .mov (.t 4)⟩,
         ⟨some 59, some (57, true), .len (.t 58)⟩,
         ⟨some 60, some (57, true), .bin .eql (.t 59) (.c (.int .i64 1))⟩,
         ⟨some 61, none, .pick (.t 57) (.t 60) (.c (.bool false))⟩,
         ⟨some 62, none, .mov (.t 61)⟩,
         ⟨some 63, some (62, true), .mov (.t 4)⟩,
         ⟨some 64, some (62, true), .iaddr (.slice 1) (.t 63) (.c (.int .i64 0))⟩,
         ⟨some 65, some (62, true), .load 1 false (.t 64)⟩,
         ⟨some 66, some (62, true), .bin .eql (.t 65) (.c (.int .i64 8))⟩,
         ⟨some 67, none, .pick (.t 62) (.t 66) (.c (.bool false))⟩,
         ⟨some 68, none, .mov (.t 67)⟩,
         ⟨some 69, some (68, true), .mov (.t 5)⟩,
         ⟨some 70, some (68, true), .len (.t 69)⟩,
         ⟨some 71, some (68, true), .bin .eql (.t 70) (.c (.int .i64 1))⟩,
         ⟨some 72, none, .pick (.t 68) (.t 71) (.c (.bool false))⟩,
         ⟨some 73, none, .mov (.t 72)⟩,
         ⟨some 74, some (73, true), .mov (.t 5)⟩,
         ⟨some 75, some (73, true), .iaddr (.slice 7) (.t 74) (.c (.int .i64 0))⟩,
         ⟨some 76, some (73, true), .load 7 true (.t 75)⟩,
         ⟨some 77, some (73, true), .mov (.t 3)⟩,
         ⟨some 78, some (73, true), .iaddr (.slice 7) (.t 77) (.c (.int .i64 1))⟩,
         ⟨some 79, some (73, true), .load 7 true (.t 78)⟩,
         ⟨some 80, some (73, true), .beqA false [.i, .i, .i, .i, .i, .i, .i] (.t 76) (.t 79)⟩,
         ⟨some 81, none, .pick (.t 73) (.t 80) (.c (.bool false))⟩,
         ⟨some 82, none, .mov (.t 81)⟩,
         ⟨some 83, some (82, true), .mov (.t 3)⟩,
         ⟨some 84, some (82, true), .iaddr (.slice 7) (.t 83) (.c (.int .i64 1))⟩,
         ⟨some 85, some (82, true), .load 7 true (.t 84)⟩,
         ⟨some 86, some (82, true), .mov (.t 3)⟩,
         ⟨some 87, some (82, true), .iaddr (.slice 7) (.t 86) (.c (.int .i64 0))⟩,
         ⟨some 88, some (82, true), .load 7 true (.t 87)⟩,
         ⟨some 89, some (82, true), .bslice false 7 [(.int .i64 0), (.int .i64 0), (.int .i64 0), (.int .i64 0), (.int .i64 0), (.int .i64 0), (.int .i64 0)] 2 [(0, (.t 85)), (1, (.t 88))]⟩,
         ⟨some 90, some (82, true), .call false 16 [(.t 89)]⟩,
         ⟨some 91, some (82, true), .bin .eql (.t 90) (.c (.int .i64 11))⟩,
         ⟨some 92, none, .pick (.t 82) (.t 91) (.c (.bool false))⟩,
         ⟨some 0, none, .mov (.t 92)⟩])
        .ret))))))), none⟩
def k9 : List (List Nat) := []
def o9 : List Nat := [3000000]
def c10b0 : AC := (.seq
        (.seq
         (.reg [⟨some 11, none, .mov (.t 5)⟩,
          ⟨some 12, none, .mov (.t 0)⟩,
          ⟨some 13, none, .len (.t 12)⟩,
          ⟨some 14, none, .bin .lss (.t 11) (.t 13)⟩])
         (.cond (.t 14)
          .skip
          (.exit 0)))
        (.seq
         (.block 1
          (.seq
           (.reg [⟨some 17, none, .mov (.t 0)⟩,
            ⟨some 18, none, .mov (.t 5)⟩,
            ⟨some 19, none, .iaddr (.slice 7) (.t 17) (.t 18)⟩,
            ⟨some 20, none, .load 7 true (.t 19)⟩,
            ⟨some 21, none, .mov (.t 1)⟩,
            ⟨some 22, none, .mov (.t 5)⟩,
            ⟨some 23, none, .iaddr (.slice 7) (.t 21) (.t 22)⟩,
            ⟨some 24, none, .load 7 true (.t 23)⟩,
            ⟨some 25, none, .beqA true [.i, .i, .i, .i, .i, .i, .i] (.t 20) (.t 24)⟩])
           (.cond (.t 25)
            (.seq
             (.reg [⟨some 4, none, .mov (.c (.bool false))⟩])
             .ret)
            .skip)))
         (.reg [⟨some 15, none, .mov (.t 5)⟩,
          ⟨some 16, none, .bin .add (.t 15) (.c (.int .i64 1))⟩,
          ⟨some 5, none, .mov (.t 16)⟩])))
/-- tracebook/tracebookref28.Same -/
def c10 : AFn := ⟨2, 26, [.t 4],
 (.seq
  (.reg [⟨some 4, none, .mov (.c (.bool false))⟩])
  (.seq
   (.seq
    (.reg [⟨some 6, none, .mov (.t 0)⟩,
     ⟨some 7, none, .len (.t 6)⟩,
     ⟨some 8, none, .mov (.t 1)⟩,
     ⟨some 9, none, .len (.t 8)⟩,
     ⟨some 10, none, .bin .neq (.t 7) (.t 9)⟩])
    (.cond (.t 10)
     (.seq
      (.reg [⟨some 4, none, .mov (.c (.bool false))⟩])
      .ret)
     .skip))
   (.seq
    (.seq
     (.reg [⟨some 5, none, .mov (.c (.int .i64 0))⟩])
     (.block 0
      (.loop [0, 1, 5]
       c10b0)))
    (.seq
     (.reg [⟨some 4, none, .mov (.c (.bool true))⟩])
     .ret)))), none⟩
def k10 : List (List Nat) := [[0, 1, 5]]
def o10 : List Nat := [3000000]
def c11b0 : AC := (.seq
         (.reg [⟨some 13, none, .bin .lss (.t 12) (.t 11)⟩])
         (.seq
          (.cond (.t 13)
           .skip
           (.exit 0))
          (.seq
           (.block 1
            (.seq
             (.reg [⟨some 14, none, .iaddr (.slice 10) (.t 10) (.t 12)⟩,
              ⟨some 15, none, .load 10 true (.t 14)⟩,
              ⟨some 6, none, .alloc [(.int .i64 0), (.int .i64 0), (.int .i64 0), (.int .i64 0), (.str []), (.int .i64 0), (.int .i64 0), .nilS, (.int .i64 0), (.int .i64 0)]⟩,
              ⟨none, none, .store 10 (.t 6) (.t 15)⟩])
             (.seq
              (.reg [⟨some 16, none, .faddr 2 (.t 6)⟩,
               ⟨some 17, none, .faddr 1 (.t 16)⟩,
               ⟨some 18, none, .load 1 false (.t 17)⟩])
              (.block 2
               (.seq
                (.reg [⟨some 20, none, .bin .eql (.t 18) (.c (.int .i64 6))⟩,
                 ⟨some 19, none, .mov (.t 20)⟩])
                (.cond (.t 19)
                 (.reg [⟨some 21, none, .mov (.t 3)⟩,
                  ⟨some 22, none, .faddr 2 (.t 6)⟩,
                  ⟨some 23, none, .faddr 3 (.t 22)⟩,
                  ⟨some 24, none, .load 1 false (.t 23)⟩,
                  ⟨some 25, none, .load 10 true (.t 6)⟩,
                  ⟨none, none, .mset [.i] false (.t 21) (.t 24) (.t 25)⟩])
                 (.seq
                  (.reg [⟨some 27, none, .bin .eql (.t 18) (.c (.int .i64 7))⟩,
                   ⟨some 26, none, .mov (.t 27)⟩])
                  (.cond (.t 26)
                   (.seq
                    (.reg [⟨some 29, none, .mov (.t 3)⟩,
                     ⟨some 30, none, .faddr 2 (.t 6)⟩,
                     ⟨some 31, none, .faddr 3 (.t 30)⟩,
                     ⟨some 32, none, .load 1 false (.t 31)⟩,
                     ⟨some 33, none, .mget true [.i] false (.agg [(.int .i64 0), (.int .i64 0), (.int .i64 0), (.int .i64 0), (.str []), (.int .i64 0), (.int .i64 0), .nilS, (.int .i64 0), (.int .i64 0)]) (.t 29) (.t 32)⟩,
                     ⟨some 28, none, .mov (.t 33)⟩,
                     ⟨some 34, none, .ext (.t 28) 0⟩,
                     ⟨some 35, none, .ext (.t 28) 1⟩,
                     ⟨some 7, none, .alloc [(.int .i64 0), (.int .i64 0), (.int .i64 0), (.int .i64 0), (.str []), (.int .i64 0), (.int .i64 0), .nilS, (.int .i64 0), (.int .i64 0)]⟩,
                     ⟨none, none, .store 10 (.t 7) (.t 34)⟩,
                     ⟨some 8, none, .mov (.t 35)⟩])
                    (.seq
                     (.reg [⟨some 36, none, .mov (.t 8)⟩])
                     (.cond (.t 36)
                      (.reg [⟨some 37, none, .mov (.t 4)⟩,
                       ⟨some 38, none, .faddr 2 (.t 6)⟩,
                       ⟨some 39, none, .faddr 3 (.t 38)⟩,
                       ⟨some 40, none, .load 1 false (.t 39)⟩,
                       ⟨some 41, none, .faddr 0 (.t 7)⟩,
                       ⟨some 42, none, .load 2 true (.t 41)⟩,
                       ⟨some 43, none, .faddr 0 (.t 6)⟩,
                       ⟨some 44, none, .load 2 true (.t 43)⟩,
                       ⟨some 45, none, .load 10 true (.t 7)⟩,
                       ⟨some 46, none, .call false 24 [(.t 45)]⟩,
                       ⟨some 47, none, .load 10 true (.t 6)⟩,
                       ⟨some 48, none, .call false 24 [(.t 47)]⟩,
                       ⟨some 49, none, .build [(.int .i64 0), (.int .i64 0), (.int .i64 0), (.int .i64 0), (.int .i64 0), (.int .i64 0), (.int .i64 0)] [(0, 1, (.t 40)), (1, 2, (.t 42)), (3, 2, (.t 44)), (5, 1, (.t 46)), (6, 1, (.t 48))]⟩,
                       ⟨some 50, none, .bslice false 7 [(.int .i64 0), (.int .i64 0), (.int .i64 0), (.int .i64 0), (.int .i64 0), (.int .i64 0), (.int .i64 0)] 1 [(0, (.t 49))]⟩,
                       ⟨some 51, none, .append 7 56 (.t 37) (.t 50)⟩,
                       ⟨some 4, none, .mov (.t 51)⟩])
                      .skip)))
                   .skip))))))))
           (.reg [⟨some 52, none, .bin .add (.t 12) (.c (.int .i64 1))⟩,
            ⟨some 12, none, .mov (.t 52)⟩]))))
/-- tracebook/flow.Of -/
def c11 : AFn := ⟨1, 54, [.t 2],
 (.seq
  (.reg [⟨some 2, none, .nilv 7⟩])
  (.seq
   (.reg [⟨some 9, none, .mkmap none⟩,
    ⟨some 3, none, .mov (.t 9)⟩])
   (.seq
    (.reg [⟨some 4, none, .nilv 7⟩])
    (.seq
     (.seq
      (.reg [⟨some 10, none, .mov (.t 0)⟩,
       ⟨some 11, none, .len (.t 10)⟩,
       ⟨some 12, none, .mov (.c (.int .i64 0))⟩])
      (.block 0
       (.loop [3, 4, 10, 11, 12]
        c11b0)))
     (.seq
      (.reg [⟨some 53, none, .mov (.t 4)⟩,
       ⟨some 2, none, .mov (.t 53)⟩])
      .ret))))), none⟩
def k11 : List (List Nat) := [[3, 4, 10, 11, 12]]
def o11 : List Nat := [3000000]
def c12b0 : AC := (.seq
        (.seq
         (.reg [⟨some 6, none, .mov (.t 4)⟩,
          ⟨some 7, none, .mov (.t 0)⟩,
          ⟨some 8, none, .len (.t 7)⟩,
          ⟨some 9, none, .bin .lss (.t 6) (.t 8)⟩])
         (.cond (.t 9)
          .skip
          (.exit 0)))
        (.seq
         (.block 1
          (.seq
           (.seq
            (.reg [⟨some 12, none, .mov (.t 0)⟩,
             ⟨some 13, none, .mov (.t 4)⟩,
             ⟨some 14, none, .iaddr (.slice 10) (.t 12) (.t 13)⟩,
             ⟨some 15, none, .faddr 2 (.t 14)⟩,
             ⟨some 16, none, .faddr 1 (.t 15)⟩,
             ⟨some 17, none, .load 1 false (.t 16)⟩,
             ⟨some 18, none, .bin .neq (.t 17) (.c (.int .i64 7))⟩])
            (.cond (.t 18)
             (.exit 1)
             .skip))
           (.seq
            (.reg [⟨some 19, none, .mov (.t 0)⟩,
             ⟨some 20, none, .mov (.t 4)⟩,
             ⟨some 21, none, .mov (.t 0)⟩,
             ⟨some 22, none, .mov (.t 4)⟩,
             ⟨some 23, none, .iaddr (.slice 10) (.t 21) (.t 22)⟩,
             ⟨some 24, none, .faddr 2 (.t 23)⟩,
             ⟨some 25, none, .faddr 3 (.t 24)⟩,
             ⟨some 26, none, .load 1 false (.t 25)⟩,
             ⟨some 27, none, .call false 25 [(.t 19), (.t 20), (.t 26)]⟩,
             ⟨some 5, none, .mov (.t 27)⟩])
            (.seq
             (.reg [⟨some 28, none, .mov (.t 5)⟩,
              ⟨some 29, none, .bin .geq (.t 28) (.c (.int .i64 0))⟩])
             (.cond (.t 29)
              (.reg [⟨some 30, none, .mov (.t 3)⟩,
               ⟨some 31, none, .mov (.t 0)⟩,
               ⟨some 32, none, .mov (.t 4)⟩,
               ⟨some 33, none, .iaddr (.slice 10) (.t 31) (.t 32)⟩,
               ⟨some 34, none, .faddr 2 (.t 33)⟩,
               ⟨some 35, none, .faddr 3 (.t 34)⟩,
               ⟨some 36, none, .load 1 false (.t 35)⟩,
               ⟨some 37, none, .mov (.t 0)⟩,
               ⟨some 38, none, .mov (.t 5)⟩,
               ⟨some 39, none, .iaddr (.slice 10) (.t 37) (.t 38)⟩,
               ⟨some 40, none, .faddr 0 (.t 39)⟩,
               ⟨some 41, none, .load 2 true (.t 40)⟩,
               ⟨some 42, none, .mov (.t 0)⟩,
               ⟨some 43, none, .mov (.t 4)⟩,
               ⟨some 44, none, .iaddr (.slice 10) (.t 42) (.t 43)⟩,
               ⟨some 45, none, .faddr 0 (.t 44)⟩,
               ⟨some 46, none, .load 2 true (.t 45)⟩,
               ⟨some 47, none, .mov (.t 0)⟩,
               ⟨some 48, none, .mov (.t 5)⟩,
               ⟨some 49, none, .iaddr (.slice 10) (.t 47) (.t 48)⟩,
               ⟨some 50, none, .load 10 true (.t 49)⟩,
               ⟨some 51, none, .call false 22 [(.t 50)]⟩,
               ⟨some 52, none, .mov (.t 0)⟩,
               ⟨some 53, none, .mov (.t 4)⟩,
               ⟨some 54, none, .iaddr (.slice 10) (.t 52) (.t 53)⟩,
               ⟨some 55, none, .load 10 true (.t 54)⟩,
               ⟨some 56, none, .call false 22 [(.t 55)]⟩,
               ⟨some 57, none, .build [(.int .i64 0), (.int .i64 0), (.int .i64 0), (.int .i64 0), (.int .i64 0), (.int .i64 0), (.int .i64 0)] [(0, 1, (.t 36)), (1, 2, (.t 41)), (3, 2, (.t 46)), (5, 1, (.t 51)), (6, 1, (.t 56))]⟩,
               ⟨some 58, none, .bslice false 7 [(.int .i64 0), (.int .i64 0), (.int .i64 0), (.int .i64 0), (.int .i64 0), (.int .i64 0), (.int .i64 0)] 1 [(0, (.t 57))]⟩,
               ⟨some 59, none, .append 7 56 (.t 30) (.t 58)⟩,
               ⟨some 3, none, .mov (.t 59)⟩])
              .skip)))))
         (.reg [⟨some 10, none, .mov (.t 4)⟩,
          ⟨some 11, none, .bin .add (.t 10) (.c (.int .i64 1))⟩,
          ⟨some 4, none, .mov (.t 11)⟩])))
/-- tracebook/tracebookref28.Of -/
def c12 : AFn := ⟨1, 61, [.t 2],
 (.seq
  (.reg [⟨some 2, none, .nilv 7⟩])
  (.seq
   (.reg [⟨some 3, none, .nilv 7⟩])
   (.seq
    (.seq
     (.reg [⟨some 4, none, .mov (.c (.int .i64 0))⟩])
     (.block 0
      (.loop [0, 3, 4]
       c12b0)))
    (.seq
     (.reg [⟨some 60, none, .mov (.t 3)⟩,
      ⟨some 2, none, .mov (.t 60)⟩])
     .ret)))), none⟩
def k12 : List (List Nat) := [[0, 3, 4]]
def o12 : List Nat := [3000000]
def c13b0 : AC := (.seq
        (.seq
         (.reg [⟨some 11, none, .mov (.t 5)⟩,
          ⟨some 12, none, .mov (.t 0)⟩,
          ⟨some 13, none, .len (.t 12)⟩,
          ⟨some 14, none, .bin .lss (.t 11) (.t 13)⟩])
         (.cond (.t 14)
          .skip
          (.exit 0)))
        (.seq
         (.block 1
          (.seq
           (.reg [⟨some 17, none, .mov (.t 0)⟩,
            ⟨some 18, none, .mov (.t 5)⟩,
            ⟨some 19, none, .iaddr (.slice 1) (.t 17) (.t 18)⟩,
            ⟨some 20, none, .load 1 false (.t 19)⟩,
            ⟨some 21, none, .mov (.t 1)⟩,
            ⟨some 22, none, .mov (.t 5)⟩,
            ⟨some 23, none, .iaddr (.slice 1) (.t 21) (.t 22)⟩,
            ⟨some 24, none, .load 1 false (.t 23)⟩,
            ⟨some 25, none, .bin .neq (.t 20) (.t 24)⟩])
           (.cond (.t 25)
            (.seq
             (.reg [⟨some 4, none, .mov (.c (.bool false))⟩])
             .ret)
            .skip)))
         (.reg [⟨some 15, none, .mov (.t 5)⟩,
          ⟨some 16, none, .bin .add (.t 15) (.c (.int .i64 1))⟩,
          ⟨some 5, none, .mov (.t 16)⟩])))
/-- tracebook/tracebookref28.SameInts -/
def c13 : AFn := ⟨2, 26, [.t 4],
 (.seq
  (.reg [⟨some 4, none, .mov (.c (.bool false))⟩])
  (.seq
   (.seq
    (.reg [⟨some 6, none, .mov (.t 0)⟩,
     ⟨some 7, none, .len (.t 6)⟩,
     ⟨some 8, none, .mov (.t 1)⟩,
     ⟨some 9, none, .len (.t 8)⟩,
     ⟨some 10, none, .bin .neq (.t 7) (.t 9)⟩])
    (.cond (.t 10)
     (.seq
      (.reg [⟨some 4, none, .mov (.c (.bool false))⟩])
      .ret)
     .skip))
   (.seq
    (.seq
     (.reg [⟨some 5, none, .mov (.c (.int .i64 0))⟩])
     (.block 0
      (.loop [0, 1, 5]
       c13b0)))
    (.seq
     (.reg [⟨some 4, none, .mov (.c (.bool true))⟩])
     .ret)))), none⟩
def k13 : List (List Nat) := [[0, 1, 5]]
def o13 : List Nat := [3000000]
def c14 : AFn := ⟨1, 0, [], .skip, some (.p openX)⟩
def c15b0 : AC := (.seq
        (.seq
         (.reg [⟨some 6, none, .mov (.t 4)⟩,
          ⟨some 7, none, .mov (.t 0)⟩,
          ⟨some 8, none, .len (.t 7)⟩,
          ⟨some 9, none, .bin .lss (.t 6) (.t 8)⟩])
         (.cond (.t 9)
          .skip
          (.exit 0)))
        (.seq
         (.block 1
          (.seq
           (.reg [⟨some 12, none, .mov (.t 0)⟩,
            ⟨some 13, none, .mov (.t 4)⟩,
            ⟨some 14, none, .iaddr (.slice 10) (.t 12) (.t 13)⟩,
            ⟨some 15, none, .faddr 2 (.t 14)⟩,
            ⟨some 16, none, .faddr 3 (.t 15)⟩,
            ⟨some 17, none, .load 1 false (.t 16)⟩,
            ⟨some 5, none, .mov (.t 17)⟩])
           (.seq
            (.reg [⟨some 18, none, .mov (.t 0)⟩,
             ⟨some 19, none, .mov (.t 4)⟩,
             ⟨some 20, none, .iaddr (.slice 10) (.t 18) (.t 19)⟩,
             ⟨some 21, none, .faddr 2 (.t 20)⟩,
             ⟨some 22, none, .faddr 1 (.t 21)⟩,
             ⟨some 23, none, .load 1 false (.t 22)⟩,
             ⟨some 24, none, .bin .eql (.t 23) (.c (.int .i64 6))⟩,
             ⟨some 25, none, .mov (.t 24)⟩,
             ⟨some 26, some (25, true), .mov (.t 0)⟩,
             ⟨some 27, some (25, true), .mov (.t 0)⟩,
             ⟨some 28, some (25, true), .len (.t 27)⟩,
             ⟨some 29, some (25, true), .mov (.t 5)⟩,
             ⟨some 30, some (25, true), .call false 25 [(.t 26), (.t 28), (.t 29)]⟩,
             ⟨some 31, some (25, true), .mov (.t 4)⟩,
             ⟨some 32, some (25, true), .bin .eql (.t 30) (.t 31)⟩,
             ⟨some 33, none, .pick (.t 25) (.t 32) (.c (.bool false))⟩,
             ⟨some 34, none, .mov (.t 33)⟩,
             ⟨some 35, some (34, true), .mov (.t 0)⟩,
             ⟨some 36, some (34, true), .mov (.t 4)⟩,
             ⟨some 37, some (34, true), .mov (.t 5)⟩,
             ⟨some 38, some (34, true), .call false 27 [(.t 35), (.t 36), (.t 37)]⟩,
             ⟨some 39, some (34, true), .un .not (.t 38)⟩,
             ⟨some 40, none, .pick (.t 34) (.t 39) (.c (.bool false))⟩])
            (.cond (.t 40)
             (.reg [⟨some 41, none, .mov (.t 3)⟩,
              ⟨some 42, none, .mov (.t 5)⟩,
              ⟨some 43, none, .call false 28 [(.t 41), (.t 42)]⟩,
              ⟨some 3, none, .mov (.t 43)⟩])
             .skip))))
         (.reg [⟨some 10, none, .mov (.t 4)⟩,
          ⟨some 11, none, .bin .add (.t 10) (.c (.int .i64 1))⟩,
          ⟨some 4, none, .mov (.t 11)⟩])))
/-- tracebook/tracebookref28.Open -/
def c15 : AFn := ⟨1, 45, [.t 2],
 (.seq
  (.reg [⟨some 2, none, .nilv 1⟩])
  (.seq
   (.reg [⟨some 3, none, .nilv 1⟩])
   (.seq
    (.seq
     (.reg [⟨some 4, none, .mov (.c (.int .i64 0))⟩])
     (.block 0
      (.loop [0, 3, 4]
       c15b0)))
    (.seq
     (.reg [⟨some 44, none, .mov (.t 3)⟩,
      ⟨some 2, none, .mov (.t 44)⟩])
     .ret)))), none⟩
def k15 : List (List Nat) := [[0, 3, 4]]
def o15 : List Nat := [3000000]
def c16b0 : AC := (.seq
       (.reg [⟨some 8, none, .bin .lss (.t 7) (.t 6)⟩])
       (.seq
        (.cond (.t 8)
         .skip
         (.exit 0))
        (.seq
         (.block 1
          (.seq
           (.reg [⟨some 9, none, .mov (.t 7)⟩,
            ⟨some 10, none, .iaddr (.slice 7) (.t 5) (.t 7)⟩,
            ⟨some 11, none, .load 7 true (.t 10)⟩,
            ⟨some 4, none, .alloc [(.int .i64 0), (.int .i64 0), (.int .i64 0), (.int .i64 0), (.int .i64 0), (.int .i64 0), (.int .i64 0)]⟩,
            ⟨some 3, none, .mov (.t 9)⟩,
            ⟨none, none, .store 7 (.t 4) (.t 11)⟩])
           (.seq
            (.seq
             (.reg [⟨some 12, none, .faddr 0 (.t 4)⟩,
              ⟨some 13, none, .load 1 false (.t 12)⟩,
              ⟨some 14, none, .call false 29 [(.t 13)]⟩,
              ⟨some 15, none, .un .not (.t 14)⟩,
              ⟨some 16, none, .mov (.t 15)⟩,
              ⟨some 17, some (16, false), .faddr 1 (.t 4)⟩,
              ⟨some 18, some (16, false), .load 2 true (.t 17)⟩,
              ⟨some 19, some (16, false), .call false 30 [(.t 18)]⟩,
              ⟨some 20, some (16, false), .un .not (.t 19)⟩,
              ⟨some 21, none, .pick (.t 16) (.c (.bool true)) (.t 20)⟩,
              ⟨some 22, none, .mov (.t 21)⟩,
              ⟨some 23, some (22, false), .faddr 3 (.t 4)⟩,
              ⟨some 24, some (22, false), .load 2 true (.t 23)⟩,
              ⟨some 25, some (22, false), .call false 30 [(.t 24)]⟩,
              ⟨some 26, some (22, false), .un .not (.t 25)⟩,
              ⟨some 27, none, .pick (.t 22) (.c (.bool true)) (.t 26)⟩,
              ⟨some 28, none, .mov (.t 27)⟩,
              ⟨some 29, some (28, false), .faddr 5 (.t 4)⟩,
              ⟨some 30, some (28, false), .load 1 false (.t 29)⟩,
              ⟨some 31, some (28, false), .call false 31 [(.t 30)]⟩,
              ⟨some 32, some (28, false), .un .not (.t 31)⟩,
              ⟨some 33, none, .pick (.t 28) (.c (.bool true)) (.t 32)⟩,
              ⟨some 34, none, .mov (.t 33)⟩,
              ⟨some 35, some (34, false), .faddr 6 (.t 4)⟩,
              ⟨some 36, some (34, false), .load 1 false (.t 35)⟩,
              ⟨some 37, some (34, false), .call false 31 [(.t 36)]⟩,
              ⟨some 38, some (34, false), .un .not (.t 37)⟩,
              ⟨some 39, none, .pick (.t 34) (.c (.bool true)) (.t 38)⟩])
             (.cond (.t 39)
              (.seq
               (.reg [⟨some 2, none, .mov (.c (.int .i64 2))⟩])
               .ret)
              .skip))
            (.seq
             (.reg [⟨some 40, none, .faddr 5 (.t 4)⟩,
              ⟨some 41, none, .load 1 false (.t 40)⟩,
              ⟨some 42, none, .faddr 6 (.t 4)⟩,
              ⟨some 43, none, .load 1 false (.t 42)⟩,
              ⟨some 44, none, .bin .gtr (.t 41) (.t 43)⟩,
              ⟨some 45, none, .mov (.t 44)⟩,
              ⟨some 46, some (45, false), .mov (.t 3)⟩,
              ⟨some 47, some (45, false), .bin .gtr (.t 46) (.c (.int .i64 0))⟩,
              ⟨some 48, some (45, false), .mov (.t 47)⟩,
              ⟨some 49, some (48, true), .faddr 6 (.t 4)⟩,
              ⟨some 50, some (48, true), .load 1 false (.t 49)⟩,
              ⟨some 51, some (48, true), .mov (.t 0)⟩,
              ⟨some 52, some (48, true), .mov (.t 3)⟩,
              ⟨some 53, some (48, true), .bin .sub (.t 52) (.c (.int .i64 1))⟩,
              ⟨some 54, some (48, true), .iaddr (.slice 7) (.t 51) (.t 53)⟩,
              ⟨some 55, some (48, true), .faddr 6 (.t 54)⟩,
              ⟨some 56, some (48, true), .load 1 false (.t 55)⟩,
              ⟨some 57, some (48, true), .bin .lss (.t 50) (.t 56)⟩,
              ⟨some 58, some (45, false), .pick (.t 48) (.t 57) (.c (.bool false))⟩,
              ⟨some 59, none, .pick (.t 45) (.c (.bool true)) (.t 58)⟩])
             (.cond (.t 59)
              (.seq
               (.reg [⟨some 2, none, .mov (.c (.int .i64 11))⟩])
               .ret)
              .skip)))))
         (.reg [⟨some 60, none, .bin .add (.t 7) (.c (.int .i64 1))⟩,
          ⟨some 7, none, .mov (.t 60)⟩]))))
/-- tracebook/flow.Check -/
def c16 : AFn := ⟨1, 61, [.t 2],
 (.seq
  (.reg [⟨some 2, none, .mov (.c (.int .i64 0))⟩])
  (.seq
   (.seq
    (.reg [⟨some 5, none, .mov (.t 0)⟩,
     ⟨some 6, none, .len (.t 5)⟩,
     ⟨some 7, none, .mov (.c (.int .i64 0))⟩])
    (.block 0
     (.loop [0, 5, 6, 7]
      c16b0)))
   (.seq
    (.reg [⟨some 2, none, .mov (.c (.int .i64 0))⟩])
    .ret))), none⟩
def k16 : List (List Nat) := [[0, 5, 6, 7]]
def o16 : List Nat := [3000000]
def c17b0 : AC := (.seq
       (.seq
        (.reg [⟨some 5, none, .mov (.t 3)⟩,
         ⟨some 6, none, .mov (.t 0)⟩,
         ⟨some 7, none, .len (.t 6)⟩,
         ⟨some 8, none, .bin .lss (.t 5) (.t 7)⟩])
        (.cond (.t 8)
         .skip
         (.exit 0)))
       (.seq
        (.block 1
         (.seq
          (.reg [⟨some 11, none, .mov (.t 0)⟩,
           ⟨some 12, none, .mov (.t 3)⟩,
           ⟨some 13, none, .iaddr (.slice 7) (.t 11) (.t 12)⟩,
           ⟨some 14, none, .load 7 true (.t 13)⟩,
           ⟨some 4, none, .alloc [(.int .i64 0), (.int .i64 0), (.int .i64 0), (.int .i64 0), (.int .i64 0), (.int .i64 0), (.int .i64 0)]⟩,
           ⟨none, none, .store 7 (.t 4) (.t 14)⟩])
          (.seq
           (.seq
            (.reg [⟨some 15, none, .faddr 0 (.t 4)⟩,
             ⟨some 16, none, .load 1 false (.t 15)⟩,
             ⟨some 17, none, .call false 32 [(.t 16)]⟩,
             ⟨some 18, none, .un .not (.t 17)⟩,
             ⟨some 19, none, .mov (.t 18)⟩,
             ⟨some 20, some (19, false), .faddr 1 (.t 4)⟩,
             ⟨some 21, some (19, false), .faddr 0 (.t 20)⟩,
             ⟨some 22, some (19, false), .load 1 false (.t 21)⟩,
             ⟨some 23, some (19, false), .call false 32 [(.t 22)]⟩,
             ⟨some 24, some (19, false), .un .not (.t 23)⟩,
             ⟨some 25, none, .pick (.t 19) (.c (.bool true)) (.t 24)⟩,
             ⟨some 26, none, .mov (.t 25)⟩,
             ⟨some 27, some (26, false), .faddr 1 (.t 4)⟩,
             ⟨some 28, some (26, false), .faddr 1 (.t 27)⟩,
             ⟨some 29, some (26, false), .load 1 false (.t 28)⟩,
             ⟨some 30, some (26, false), .call false 32 [(.t 29)]⟩,
             ⟨some 31, some (26, false), .un .not (.t 30)⟩,
             ⟨some 32, none, .pick (.t 26) (.c (.bool true)) (.t 31)⟩,
             ⟨some 33, none, .mov (.t 32)⟩,
             ⟨some 34, some (33, false), .faddr 3 (.t 4)⟩,
             ⟨some 35, some (33, false), .faddr 0 (.t 34)⟩,
             ⟨some 36, some (33, false), .load 1 false (.t 35)⟩,
             ⟨some 37, some (33, false), .call false 32 [(.t 36)]⟩,
             ⟨some 38, some (33, false), .un .not (.t 37)⟩,
             ⟨some 39, none, .pick (.t 33) (.c (.bool true)) (.t 38)⟩,
             ⟨some 40, none, .mov (.t 39)⟩,
             ⟨some 41, some (40, false), .faddr 3 (.t 4)⟩,
             ⟨some 42, some (40, false), .faddr 1 (.t 41)⟩,
             ⟨some 43, some (40, false), .load 1 false (.t 42)⟩,
             ⟨some 44, some (40, false), .call false 32 [(.t 43)]⟩,
             ⟨some 45, some (40, false), .un .not (.t 44)⟩,
             ⟨some 46, none, .pick (.t 40) (.c (.bool true)) (.t 45)⟩,
             ⟨some 47, none, .mov (.t 46)⟩,
             ⟨some 48, some (47, false), .faddr 5 (.t 4)⟩,
             ⟨some 49, some (47, false), .load 1 false (.t 48)⟩,
             ⟨some 50, some (47, false), .call false 33 [(.t 49)]⟩,
             ⟨some 51, some (47, false), .un .not (.t 50)⟩,
             ⟨some 52, none, .pick (.t 47) (.c (.bool true)) (.t 51)⟩,
             ⟨some 53, none, .mov (.t 52)⟩,
             ⟨some 54, some (53, false), .faddr 6 (.t 4)⟩,
             ⟨some 55, some (53, false), .load 1 false (.t 54)⟩,
             ⟨some 56, some (53, false), .call false 33 [(.t 55)]⟩,
             ⟨some 57, some (53, false), .un .not (.t 56)⟩,
             ⟨some 58, none, .pick (.t 53) (.c (.bool true)) (.t 57)⟩])
            (.cond (.t 58)
             (.seq
              (.reg [⟨some 2, none, .mov (.c (.int .i64 2))⟩])
              .ret)
             .skip))
           (.seq
            (.reg [⟨some 59, none, .faddr 5 (.t 4)⟩,
             ⟨some 60, none, .load 1 false (.t 59)⟩,
             ⟨some 61, none, .faddr 6 (.t 4)⟩,
             ⟨some 62, none, .load 1 false (.t 61)⟩,
             ⟨some 63, none, .bin .gtr (.t 60) (.t 62)⟩,
             ⟨some 64, none, .mov (.t 63)⟩,
             ⟨some 65, some (64, false), .mov (.t 3)⟩,
             ⟨some 66, some (64, false), .bin .gtr (.t 65) (.c (.int .i64 0))⟩,
             ⟨some 67, some (64, false), .mov (.t 66)⟩,
             ⟨some 68, some (67, true), .faddr 6 (.t 4)⟩,
             ⟨some 69, some (67, true), .load 1 false (.t 68)⟩,
             ⟨some 70, some (67, true), .mov (.t 0)⟩,
             ⟨some 71, some (67, true), .mov (.t 3)⟩,
             ⟨some 72, some (67, true), .bin .sub (.t 71) (.c (.int .i64 1))⟩,
             ⟨some 73, some (67, true), .iaddr (.slice 7) (.t 70) (.t 72)⟩,
             ⟨some 74, some (67, true), .faddr 6 (.t 73)⟩,
             ⟨some 75, some (67, true), .load 1 false (.t 74)⟩,
             ⟨some 76, some (67, true), .bin .lss (.t 69) (.t 75)⟩,
             ⟨some 77, some (64, false), .pick (.t 67) (.t 76) (.c (.bool false))⟩,
             ⟨some 78, none, .pick (.t 64) (.c (.bool true)) (.t 77)⟩])
            (.cond (.t 78)
             (.seq
              (.reg [⟨some 2, none, .mov (.c (.int .i64 11))⟩])
              .ret)
             .skip)))))
        (.reg [⟨some 9, none, .mov (.t 3)⟩,
         ⟨some 10, none, .bin .add (.t 9) (.c (.int .i64 1))⟩,
         ⟨some 3, none, .mov (.t 10)⟩])))
/-- tracebook/tracebookref28.Check -/
def c17 : AFn := ⟨1, 79, [.t 2],
 (.seq
  (.reg [⟨some 2, none, .mov (.c (.int .i64 0))⟩])
  (.seq
   (.seq
    (.reg [⟨some 3, none, .mov (.c (.int .i64 0))⟩])
    (.block 0
     (.loop [0, 3]
      c17b0)))
   (.seq
    (.reg [⟨some 2, none, .mov (.c (.int .i64 0))⟩])
    .ret))), none⟩
def k17 : List (List Nat) := [[0, 3]]
def o17 : List Nat := [3000000]
def c18b0 : AC := (.seq
        (.reg [⟨some 13, none, .bin .lss (.t 12) (.t 11)⟩])
        (.seq
         (.cond (.t 13)
          .skip
          (.exit 0))
         (.seq
          (.block 1
           (.seq
            (.reg [⟨some 14, none, .iaddr (.slice 7) (.t 10) (.t 12)⟩,
             ⟨some 15, none, .load 7 true (.t 14)⟩,
             ⟨some 9, none, .alloc [(.int .i64 0), (.int .i64 0), (.int .i64 0), (.int .i64 0), (.int .i64 0), (.int .i64 0), (.int .i64 0)]⟩,
             ⟨none, none, .store 7 (.t 9) (.t 15)⟩])
            (.seq
             (.reg [⟨some 16, none, .faddr 1 (.t 9)⟩,
              ⟨some 17, none, .faddr 0 (.t 16)⟩,
              ⟨some 18, none, .load 1 false (.t 17)⟩,
              ⟨some 19, none, .mov (.t 1)⟩,
              ⟨some 20, none, .bin .eql (.t 18) (.t 19)⟩,
              ⟨some 21, none, .mov (.t 20)⟩,
              ⟨some 22, some (21, true), .faddr 3 (.t 9)⟩,
              ⟨some 23, some (21, true), .faddr 0 (.t 22)⟩,
              ⟨some 24, some (21, true), .load 1 false (.t 23)⟩,
              ⟨some 25, some (21, true), .mov (.t 2)⟩,
              ⟨some 26, some (21, true), .bin .eql (.t 24) (.t 25)⟩,
              ⟨some 27, none, .pick (.t 21) (.t 26) (.c (.bool false))⟩])
             (.cond (.t 27)
              (.reg [⟨some 28, none, .mov (.t 7)⟩,
               ⟨some 29, none, .load 7 true (.t 9)⟩,
               ⟨some 30, none, .bslice false 7 [(.int .i64 0), (.int .i64 0), (.int .i64 0), (.int .i64 0), (.int .i64 0), (.int .i64 0), (.int .i64 0)] 1 [(0, (.t 29))]⟩,
               ⟨some 31, none, .append 7 56 (.t 28) (.t 30)⟩,
               ⟨some 7, none, .mov (.t 31)⟩])
              .skip))))
          (.reg [⟨some 32, none, .bin .add (.t 12) (.c (.int .i64 1))⟩,
           ⟨some 12, none, .mov (.t 32)⟩]))))
/-- tracebook/flow.Between -/
def c18 : AFn := ⟨3, 34, [.t 6],
 (.seq
  (.reg [⟨some 6, none, .nilv 7⟩])
  (.seq
   (.reg [⟨some 7, none, .nilv 7⟩])
   (.seq
    (.seq
     (.reg [⟨some 10, none, .mov (.t 0)⟩,
      ⟨some 11, none, .len (.t 10)⟩,
      ⟨some 12, none, .mov (.c (.int .i64 0))⟩])
     (.block 0
      (.loop [1, 2, 7, 10, 11, 12]
       c18b0)))
    (.seq
     (.reg [⟨some 33, none, .mov (.t 7)⟩,
      ⟨some 6, none, .mov (.t 33)⟩])
     .ret)))), none⟩
def k18 : List (List Nat) := [[1, 2, 7, 10, 11, 12]]
def o18 : List Nat := [3000000]
def c19b0 : AC := (.seq
        (.seq
         (.reg [⟨some 9, none, .mov (.t 8)⟩,
          ⟨some 10, none, .mov (.t 0)⟩,
          ⟨some 11, none, .len (.t 10)⟩,
          ⟨some 12, none, .bin .lss (.t 9) (.t 11)⟩])
         (.cond (.t 12)
          .skip
          (.exit 0)))
        (.seq
         (.block 1
          (.seq
           (.reg [⟨some 15, none, .mov (.t 0)⟩,
            ⟨some 16, none, .mov (.t 8)⟩,
            ⟨some 17, none, .iaddr (.slice 7) (.t 15) (.t 16)⟩,
            ⟨some 18, none, .faddr 1 (.t 17)⟩,
            ⟨some 19, none, .faddr 0 (.t 18)⟩,
            ⟨some 20, none, .load 1 false (.t 19)⟩,
            ⟨some 21, none, .mov (.t 1)⟩,
            ⟨some 22, none, .bin .eql (.t 20) (.t 21)⟩,
            ⟨some 23, none, .mov (.t 22)⟩,
            ⟨some 24, some (23, true), .mov (.t 0)⟩,
            ⟨some 25, some (23, true), .mov (.t 8)⟩,
            ⟨some 26, some (23, true), .iaddr (.slice 7) (.t 24) (.t 25)⟩,
            ⟨some 27, some (23, true), .faddr 3 (.t 26)⟩,
            ⟨some 28, some (23, true), .faddr 0 (.t 27)⟩,
            ⟨some 29, some (23, true), .load 1 false (.t 28)⟩,
            ⟨some 30, some (23, true), .mov (.t 2)⟩,
            ⟨some 31, some (23, true), .bin .eql (.t 29) (.t 30)⟩,
            ⟨some 32, none, .pick (.t 23) (.t 31) (.c (.bool false))⟩])
           (.cond (.t 32)
            (.reg [⟨some 33, none, .mov (.t 7)⟩,
             ⟨some 34, none, .mov (.t 0)⟩,
             ⟨some 35, none, .mov (.t 8)⟩,
             ⟨some 36, none, .iaddr (.slice 7) (.t 34) (.t 35)⟩,
             ⟨some 37, none, .load 7 true (.t 36)⟩,
             ⟨some 38, none, .bslice false 7 [(.int .i64 0), (.int .i64 0), (.int .i64 0), (.int .i64 0), (.int .i64 0), (.int .i64 0), (.int .i64 0)] 1 [(0, (.t 37))]⟩,
             ⟨some 39, none, .append 7 56 (.t 33) (.t 38)⟩,
             ⟨some 7, none, .mov (.t 39)⟩])
            .skip)))
         (.reg [⟨some 13, none, .mov (.t 8)⟩,
          ⟨some 14, none, .bin .add (.t 13) (.c (.int .i64 1))⟩,
          ⟨some 8, none, .mov (.t 14)⟩])))
/-- tracebook/tracebookref28.Between -/
def c19 : AFn := ⟨3, 41, [.t 6],
 (.seq
  (.reg [⟨some 6, none, .nilv 7⟩])
  (.seq
   (.reg [⟨some 7, none, .nilv 7⟩])
   (.seq
    (.seq
     (.reg [⟨some 8, none, .mov (.c (.int .i64 0))⟩])
     (.block 0
      (.loop [0, 1, 2, 7, 8]
       c19b0)))
    (.seq
     (.reg [⟨some 40, none, .mov (.t 7)⟩,
      ⟨some 6, none, .mov (.t 40)⟩])
     .ret)))), none⟩
def k19 : List (List Nat) := [[0, 1, 2, 7, 8]]
def o19 : List Nat := [3000000]
def c20b0 : AC := (.seq
       (.seq
        (.reg [⟨some 6, none, .mov (.t 5)⟩,
         ⟨some 7, none, .mov (.t 0)⟩,
         ⟨some 8, none, .len (.t 7)⟩,
         ⟨some 9, none, .bin .lss (.t 6) (.t 8)⟩])
        (.cond (.t 9)
         .skip
         (.exit 0)))
       (.seq
        (.block 1
         (.seq
          (.reg [⟨some 12, none, .mov (.t 0)⟩,
           ⟨some 13, none, .mov (.t 5)⟩,
           ⟨some 14, none, .iaddr (.slice 1) (.t 12) (.t 13)⟩,
           ⟨some 15, none, .load 1 false (.t 14)⟩,
           ⟨some 16, none, .mov (.t 1)⟩,
           ⟨some 17, none, .bin .eql (.t 15) (.t 16)⟩])
          (.cond (.t 17)
           (.seq
            (.reg [⟨some 4, none, .mov (.c (.bool true))⟩])
            .ret)
           .skip)))
        (.reg [⟨some 10, none, .mov (.t 5)⟩,
         ⟨some 11, none, .bin .add (.t 10) (.c (.int .i64 1))⟩,
         ⟨some 5, none, .mov (.t 11)⟩])))
/-- tracebook/tracebooklaw28.has -/
def c20 : AFn := ⟨2, 18, [.t 4],
 (.seq
  (.reg [⟨some 4, none, .mov (.c (.bool false))⟩])
  (.seq
   (.seq
    (.reg [⟨some 5, none, .mov (.c (.int .i64 0))⟩])
    (.block 0
     (.loop [0, 1, 5]
      c20b0)))
   (.seq
    (.reg [⟨some 4, none, .mov (.c (.bool false))⟩])
    .ret))), none⟩
def k20 : List (List Nat) := [[0, 1, 5]]
def o20 : List Nat := [3000000]
def c21b0 : AC := (.seq
        (.seq
         (.reg [⟨some 7, none, .mov (.t 6)⟩,
          ⟨some 8, none, .mov (.t 0)⟩,
          ⟨some 9, none, .len (.t 8)⟩,
          ⟨some 10, none, .bin .lss (.t 7) (.t 9)⟩])
         (.cond (.t 10)
          .skip
          (.exit 0)))
        (.seq
         (.block 1
          (.seq
           (.seq
            (.reg [⟨some 13, none, .mov (.t 0)⟩,
             ⟨some 14, none, .mov (.t 6)⟩,
             ⟨some 15, none, .iaddr (.slice 10) (.t 13) (.t 14)⟩,
             ⟨some 16, none, .faddr 2 (.t 15)⟩,
             ⟨some 17, none, .faddr 3 (.t 16)⟩,
             ⟨some 18, none, .load 1 false (.t 17)⟩,
             ⟨some 19, none, .mov (.t 1)⟩,
             ⟨some 20, none, .bin .eql (.t 18) (.t 19)⟩,
             ⟨some 21, none, .mov (.t 20)⟩,
             ⟨some 22, some (21, true), .mov (.t 0)⟩,
             ⟨some 23, some (21, true), .mov (.t 6)⟩,
             ⟨some 24, some (21, true), .iaddr (.slice 10) (.t 22) (.t 23)⟩,
             ⟨some 25, some (21, true), .faddr 2 (.t 24)⟩,
             ⟨some 26, some (21, true), .faddr 1 (.t 25)⟩,
             ⟨some 27, some (21, true), .load 1 false (.t 26)⟩,
             ⟨some 28, some (21, true), .bin .eql (.t 27) (.c (.int .i64 6))⟩,
             ⟨some 29, none, .pick (.t 21) (.t 28) (.c (.bool false))⟩])
            (.cond (.t 29)
             (.reg [⟨some 5, none, .mov (.c (.bool true))⟩])
             .skip))
           (.seq
            (.reg [⟨some 30, none, .mov (.t 0)⟩,
             ⟨some 31, none, .mov (.t 6)⟩,
             ⟨some 32, none, .iaddr (.slice 10) (.t 30) (.t 31)⟩,
             ⟨some 33, none, .faddr 2 (.t 32)⟩,
             ⟨some 34, none, .faddr 3 (.t 33)⟩,
             ⟨some 35, none, .load 1 false (.t 34)⟩,
             ⟨some 36, none, .mov (.t 1)⟩,
             ⟨some 37, none, .bin .eql (.t 35) (.t 36)⟩,
             ⟨some 38, none, .mov (.t 37)⟩,
             ⟨some 39, some (38, true), .mov (.t 0)⟩,
             ⟨some 40, some (38, true), .mov (.t 6)⟩,
             ⟨some 41, some (38, true), .iaddr (.slice 10) (.t 39) (.t 40)⟩,
             ⟨some 42, some (38, true), .faddr 2 (.t 41)⟩,
             ⟨some 43, some (38, true), .faddr 1 (.t 42)⟩,
             ⟨some 44, some (38, true), .load 1 false (.t 43)⟩,
             ⟨some 45, some (38, true), .bin .eql (.t 44) (.c (.int .i64 7))⟩,
             ⟨some 46, none, .pick (.t 38) (.t 45) (.c (.bool false))⟩])
            (.cond (.t 46)
             (.reg [⟨some 5, none, .mov (.c (.bool false))⟩])
             .skip))))
         (.reg [⟨some 11, none, .mov (.t 6)⟩,
          ⟨some 12, none, .bin .add (.t 11) (.c (.int .i64 1))⟩,
          ⟨some 6, none, .mov (.t 12)⟩])))
/-- tracebook/tracebooklaw28.waits -/
def c21 : AFn := ⟨2, 48, [.t 4],
 (.seq
  (.reg [⟨some 4, none, .mov (.c (.bool false))⟩])
  (.seq
   (.reg [⟨some 5, none, .mov (.c (.bool false))⟩])
   (.seq
    (.seq
     (.reg [⟨some 6, none, .mov (.c (.int .i64 0))⟩])
     (.block 0
      (.loop [0, 1, 5, 6]
       c21b0)))
    (.seq
     (.reg [⟨some 47, none, .mov (.t 5)⟩,
      ⟨some 4, none, .mov (.t 47)⟩])
     .ret)))), none⟩
def k21 : List (List Nat) := [[0, 1, 5, 6]]
def o21 : List Nat := [3000000]
/-- tracebook/tracebookref28.Time -/
def c22 : AFn := ⟨1, 8, [.t 2],
 (.seq
  (.reg [⟨some 1, none, .box (.t 0)⟩,
   ⟨some 2, none, .mov (.c (.int .i64 0))⟩])
  (.seq
   (.reg [⟨some 3, none, .faddr 8 (.t 1)⟩,
    ⟨some 4, none, .faddr 0 (.t 3)⟩,
    ⟨some 5, none, .load 1 false (.t 4)⟩,
    ⟨some 6, none, .max [(.t 5), (.c (.int .i64 0))]⟩,
    ⟨some 7, none, .min [(.t 6), (.c (.int .i64 1000000000000))]⟩,
    ⟨some 2, none, .mov (.t 7)⟩])
   .ret)), none⟩
def k22 : List (List Nat) := []
def o22 : List Nat := [3000000]
/-- tracebook/tracebooklaw28.at -/
def c23 : AFn := ⟨5, 22, [.c 10 10 true],
 (.seq
  (.reg [⟨some 10, none, .alloc [(.int .i64 0), (.int .i64 0), (.int .i64 0), (.int .i64 0), (.str []), (.int .i64 0), (.int .i64 0), .nilS, (.int .i64 0), (.int .i64 0)]⟩])
  (.seq
   (.reg [⟨some 11, none, .mov (.t 0)⟩,
    ⟨some 12, none, .mov (.t 1)⟩,
    ⟨some 13, none, .build [(.int .i64 0), (.int .i64 0)] [(0, 1, (.t 11)), (1, 1, (.t 12))]⟩,
    ⟨some 14, none, .mov (.t 2)⟩,
    ⟨some 15, none, .mov (.t 3)⟩,
    ⟨some 16, none, .mov (.t 4)⟩,
    ⟨some 17, none, .build [(.int .i64 0), (.int .i64 0), (.str []), (.int .i64 0), (.int .i64 0), .nilS] [(0, 1, (.t 14)), (1, 1, (.t 15)), (3, 1, (.t 16))]⟩,
    ⟨some 18, none, .mov (.t 2)⟩,
    ⟨some 19, none, .mov (.t 2)⟩,
    ⟨some 20, none, .build [(.int .i64 0), (.int .i64 0)] [(0, 1, (.t 18)), (1, 1, (.t 19))]⟩,
    ⟨some 21, none, .build [(.int .i64 0), (.int .i64 0), (.int .i64 0), (.int .i64 0), (.str []), (.int .i64 0), (.int .i64 0), .nilS, (.int .i64 0), (.int .i64 0)] [(0, 2, (.t 13)), (2, 6, (.t 17)), (8, 2, (.t 20))]⟩,
    ⟨none, none, .store 10 (.t 10) (.t 21)⟩])
   .ret)), none⟩
def k23 : List (List Nat) := []
def o23 : List Nat := [3000000]
/-- tracebook/flow.timeOf -/
def c24 : AFn := ⟨1, 8, [.t 2],
 (.seq
  (.reg [⟨some 1, none, .box (.t 0)⟩,
   ⟨some 2, none, .mov (.c (.int .i64 0))⟩])
  (.seq
   (.reg [⟨some 3, none, .faddr 8 (.t 1)⟩,
    ⟨some 4, none, .faddr 0 (.t 3)⟩,
    ⟨some 5, none, .load 1 false (.t 4)⟩,
    ⟨some 6, none, .max [(.t 5), (.c (.int .i64 0))]⟩,
    ⟨some 7, none, .min [(.t 6), (.c (.int .i64 1000000000000))]⟩,
    ⟨some 2, none, .mov (.t 7)⟩])
   .ret)), none⟩
def k24 : List (List Nat) := []
def o24 : List Nat := [3000000]
def c25b0 : AC := (.seq
       (.seq
        (.reg [⟨some 10, none, .mov (.t 7)⟩,
         ⟨some 11, none, .bin .geq (.t 10) (.c (.int .i64 0))⟩])
        (.cond (.t 11)
         .skip
         (.exit 0)))
       (.seq
        (.block 1
         (.seq
          (.reg [⟨some 14, none, .mov (.t 0)⟩,
           ⟨some 15, none, .mov (.t 7)⟩,
           ⟨some 16, none, .iaddr (.slice 10) (.t 14) (.t 15)⟩,
           ⟨some 17, none, .faddr 2 (.t 16)⟩,
           ⟨some 18, none, .faddr 1 (.t 17)⟩,
           ⟨some 19, none, .load 1 false (.t 18)⟩,
           ⟨some 20, none, .bin .eql (.t 19) (.c (.int .i64 6))⟩,
           ⟨some 21, none, .mov (.t 20)⟩,
           ⟨some 22, some (21, true), .mov (.t 0)⟩,
           ⟨some 23, some (21, true), .mov (.t 7)⟩,
           ⟨some 24, some (21, true), .iaddr (.slice 10) (.t 22) (.t 23)⟩,
           ⟨some 25, some (21, true), .faddr 2 (.t 24)⟩,
           ⟨some 26, some (21, true), .faddr 3 (.t 25)⟩,
           ⟨some 27, some (21, true), .load 1 false (.t 26)⟩,
           ⟨some 28, some (21, true), .mov (.t 2)⟩,
           ⟨some 29, some (21, true), .bin .eql (.t 27) (.t 28)⟩,
           ⟨some 30, none, .pick (.t 21) (.t 29) (.c (.bool false))⟩])
          (.cond (.t 30)
           (.seq
            (.reg [⟨some 31, none, .mov (.t 7)⟩,
             ⟨some 6, none, .mov (.t 31)⟩])
            .ret)
           .skip)))
        (.reg [⟨some 12, none, .mov (.t 7)⟩,
         ⟨some 13, none, .bin .sub (.t 12) (.c (.int .i64 1))⟩,
         ⟨some 7, none, .mov (.t 13)⟩])))
/-- tracebook/tracebookref28.lastSend -/
def c25 : AFn := ⟨3, 32, [.t 6],
 (.seq
  (.reg [⟨some 6, none, .mov (.c (.int .i64 0))⟩])
  (.seq
   (.seq
    (.reg [⟨some 8, none, .mov (.t 1)⟩,
     ⟨some 9, none, .bin .sub (.t 8) (.c (.int .i64 1))⟩,
     ⟨some 7, none, .mov (.t 9)⟩])
    (.block 0
     (.loop [0, 2, 7]
      c25b0)))
   (.seq
    (.reg [⟨some 6, none, .mov (.c (.int .i64 (-1)))⟩])
    .ret))), none⟩
def k25 : List (List Nat) := [[0, 2, 7]]
def o25 : List Nat := [3000000]
/-- slices.Sort[[]int,int] -/
def c26 : AFn := ⟨1, 11, [],
 (.seq
  (.reg [⟨some 3, none, .mov (.t 0)⟩,
   ⟨some 4, none, .len (.t 3)⟩,
   ⟨some 2, none, .mov (.t 4)⟩])
  (.reg [⟨some 5, none, .mov (.t 0)⟩,
   ⟨some 6, none, .mov (.t 2)⟩,
   ⟨some 7, none, .mov (.t 2)⟩,
   ⟨some 8, none, .conv (.int .u64) (.t 7)⟩,
   ⟨some 9, none, .call false 35 [(.t 8)]⟩,
   ⟨some 10, none, .call false 34 [(.t 5), (.c (.int .i64 0)), (.t 6), (.t 9)]⟩])), none⟩
def k26 : List (List Nat) := []
def o26 : List Nat := [3000000]
def c27b0 : AC := (.seq
       (.seq
        (.reg [⟨some 10, none, .mov (.t 7)⟩,
         ⟨some 11, none, .mov (.t 0)⟩,
         ⟨some 12, none, .len (.t 11)⟩,
         ⟨some 13, none, .bin .lss (.t 10) (.t 12)⟩])
        (.cond (.t 13)
         .skip
         (.exit 0)))
       (.seq
        (.block 1
         (.seq
          (.reg [⟨some 16, none, .mov (.t 0)⟩,
           ⟨some 17, none, .mov (.t 7)⟩,
           ⟨some 18, none, .iaddr (.slice 10) (.t 16) (.t 17)⟩,
           ⟨some 19, none, .faddr 2 (.t 18)⟩,
           ⟨some 20, none, .faddr 1 (.t 19)⟩,
           ⟨some 21, none, .load 1 false (.t 20)⟩,
           ⟨some 22, none, .bin .eql (.t 21) (.c (.int .i64 7))⟩,
           ⟨some 23, none, .mov (.t 22)⟩,
           ⟨some 24, some (23, true), .mov (.t 0)⟩,
           ⟨some 25, some (23, true), .mov (.t 7)⟩,
           ⟨some 26, some (23, true), .iaddr (.slice 10) (.t 24) (.t 25)⟩,
           ⟨some 27, some (23, true), .faddr 2 (.t 26)⟩,
           ⟨some 28, some (23, true), .faddr 3 (.t 27)⟩,
           ⟨some 29, some (23, true), .load 1 false (.t 28)⟩,
           ⟨some 30, some (23, true), .mov (.t 2)⟩,
           ⟨some 31, some (23, true), .bin .eql (.t 29) (.t 30)⟩,
           ⟨some 32, none, .pick (.t 23) (.t 31) (.c (.bool false))⟩])
          (.cond (.t 32)
           (.seq
            (.reg [⟨some 6, none, .mov (.c (.bool true))⟩])
            .ret)
           .skip)))
        (.reg [⟨some 14, none, .mov (.t 7)⟩,
         ⟨some 15, none, .bin .add (.t 14) (.c (.int .i64 1))⟩,
         ⟨some 7, none, .mov (.t 15)⟩])))
/-- tracebook/tracebookref28.received -/
def c27 : AFn := ⟨3, 33, [.t 6],
 (.seq
  (.reg [⟨some 6, none, .mov (.c (.bool false))⟩])
  (.seq
   (.seq
    (.reg [⟨some 8, none, .mov (.t 1)⟩,
     ⟨some 9, none, .bin .add (.t 8) (.c (.int .i64 1))⟩,
     ⟨some 7, none, .mov (.t 9)⟩])
    (.block 0
     (.loop [0, 2, 7]
      c27b0)))
   (.seq
    (.reg [⟨some 6, none, .mov (.c (.bool false))⟩])
    .ret))), none⟩
def k27 : List (List Nat) := [[0, 2, 7]]
def o27 : List Nat := [3000000]
def c28b0 : AC := (.seq
       (.seq
        (.reg [⟨some 7, none, .mov (.t 5)⟩,
         ⟨some 8, none, .mov (.t 0)⟩,
         ⟨some 9, none, .len (.t 8)⟩,
         ⟨some 10, none, .bin .lss (.t 7) (.t 9)⟩,
         ⟨some 11, none, .mov (.t 10)⟩,
         ⟨some 12, some (11, true), .mov (.t 0)⟩,
         ⟨some 13, some (11, true), .mov (.t 5)⟩,
         ⟨some 14, some (11, true), .iaddr (.slice 1) (.t 12) (.t 13)⟩,
         ⟨some 15, some (11, true), .load 1 false (.t 14)⟩,
         ⟨some 16, some (11, true), .mov (.t 1)⟩,
         ⟨some 17, some (11, true), .bin .lss (.t 15) (.t 16)⟩,
         ⟨some 18, none, .pick (.t 11) (.t 17) (.c (.bool false))⟩])
        (.cond (.t 18)
         .skip
         (.exit 0)))
       (.block 1
        (.reg [⟨some 19, none, .mov (.t 5)⟩,
         ⟨some 20, none, .bin .add (.t 19) (.c (.int .i64 1))⟩,
         ⟨some 5, none, .mov (.t 20)⟩])))
/-- tracebook/tracebookref28.put -/
def c28 : AFn := ⟨2, 48, [.t 4],
 (.seq
  (.reg [⟨some 4, none, .nilv 1⟩])
  (.seq
   (.reg [⟨some 5, none, .mov (.c (.int .i64 0))⟩])
   (.seq
    (.block 0
     (.loop [0, 1, 5]
      c28b0))
    (.seq
     (.seq
      (.reg [⟨some 21, none, .mov (.t 5)⟩,
       ⟨some 22, none, .mov (.t 0)⟩,
       ⟨some 23, none, .len (.t 22)⟩,
       ⟨some 24, none, .bin .lss (.t 21) (.t 23)⟩,
       ⟨some 25, none, .mov (.t 24)⟩,
       ⟨some 26, some (25, true), .mov (.t 0)⟩,
       ⟨some 27, some (25, true), .mov (.t 5)⟩,
       ⟨some 28, some (25, true), .iaddr (.slice 1) (.t 26) (.t 27)⟩,
       ⟨some 29, some (25, true), .load 1 false (.t 28)⟩,
       ⟨some 30, some (25, true), .mov (.t 1)⟩,
       ⟨some 31, some (25, true), .bin .eql (.t 29) (.t 30)⟩,
       ⟨some 32, none, .pick (.t 25) (.t 31) (.c (.bool false))⟩])
      (.cond (.t 32)
       (.seq
        (.reg [⟨some 33, none, .mov (.t 0)⟩,
         ⟨some 4, none, .mov (.t 33)⟩])
        .ret)
       .skip))
     (.seq
      (.reg [⟨some 34, none, .bslice true 1 [(.int .i64 0)] 0 []⟩,
       ⟨some 35, none, .mov (.t 0)⟩,
       ⟨some 36, none, .mov (.t 5)⟩,
       ⟨some 37, none, .slc (.slice 1) (.t 35) none (some (.t 36)) none⟩,
       ⟨some 38, none, .append 1 8 (.t 34) (.t 37)⟩,
       ⟨some 6, none, .mov (.t 38)⟩])
      (.seq
       (.reg [⟨some 39, none, .mov (.t 6)⟩,
        ⟨some 40, none, .mov (.t 1)⟩,
        ⟨some 41, none, .bslice false 1 [(.int .i64 0)] 1 [(0, (.t 40))]⟩,
        ⟨some 42, none, .append 1 8 (.t 39) (.t 41)⟩,
        ⟨some 6, none, .mov (.t 42)⟩])
       (.seq
        (.reg [⟨some 43, none, .mov (.t 6)⟩,
         ⟨some 44, none, .mov (.t 0)⟩,
         ⟨some 45, none, .mov (.t 5)⟩,
         ⟨some 46, none, .slc (.slice 1) (.t 44) (some (.t 45)) none none⟩,
         ⟨some 47, none, .append 1 8 (.t 43) (.t 46)⟩,
         ⟨some 4, none, .mov (.t 47)⟩])
        .ret))))))), none⟩
def k28 : List (List Nat) := [[0, 1, 5]]
def o28 : List Nat := [3000000, 34]
/-- tracebook/flow.isNumber -/
def c29 : AFn := ⟨1, 9, [.t 2],
 (.seq
  (.reg [⟨some 2, none, .mov (.c (.bool false))⟩])
  (.seq
   (.reg [⟨some 3, none, .mov (.t 0)⟩,
    ⟨some 4, none, .bin .leq (.c (.int .i64 0)) (.t 3)⟩,
    ⟨some 5, none, .mov (.t 4)⟩,
    ⟨some 6, some (5, true), .mov (.t 0)⟩,
    ⟨some 7, some (5, true), .bin .leq (.t 6) (.c (.int .i64 1000000000000000))⟩,
    ⟨some 8, none, .pick (.t 5) (.t 7) (.c (.bool false))⟩,
    ⟨some 2, none, .mov (.t 8)⟩])
   .ret)), none⟩
def k29 : List (List Nat) := []
def o29 : List Nat := [3000000]
/-- tracebook/flow.isId -/
def c30 : AFn := ⟨1, 11, [.t 2],
 (.seq
  (.reg [⟨some 1, none, .box (.t 0)⟩,
   ⟨some 2, none, .mov (.c (.bool false))⟩])
  (.seq
   (.reg [⟨some 3, none, .faddr 0 (.t 1)⟩,
    ⟨some 4, none, .load 1 false (.t 3)⟩,
    ⟨some 5, none, .call false 29 [(.t 4)]⟩,
    ⟨some 6, none, .mov (.t 5)⟩,
    ⟨some 7, some (6, true), .faddr 1 (.t 1)⟩,
    ⟨some 8, some (6, true), .load 1 false (.t 7)⟩,
    ⟨some 9, some (6, true), .call false 29 [(.t 8)]⟩,
    ⟨some 10, none, .pick (.t 6) (.t 9) (.c (.bool false))⟩,
    ⟨some 2, none, .mov (.t 10)⟩])
   .ret)), none⟩
def k30 : List (List Nat) := []
def o30 : List Nat := [3000000]
/-- tracebook/flow.isTime -/
def c31 : AFn := ⟨1, 9, [.t 2],
 (.seq
  (.reg [⟨some 2, none, .mov (.c (.bool false))⟩])
  (.seq
   (.reg [⟨some 3, none, .mov (.t 0)⟩,
    ⟨some 4, none, .bin .leq (.c (.int .i64 0)) (.t 3)⟩,
    ⟨some 5, none, .mov (.t 4)⟩,
    ⟨some 6, some (5, true), .mov (.t 0)⟩,
    ⟨some 7, some (5, true), .bin .leq (.t 6) (.c (.int .i64 1000000000000))⟩,
    ⟨some 8, none, .pick (.t 5) (.t 7) (.c (.bool false))⟩,
    ⟨some 2, none, .mov (.t 8)⟩])
   .ret)), none⟩
def k31 : List (List Nat) := []
def o31 : List Nat := [3000000]
/-- tracebook/tracebookref28.natural -/
def c32 : AFn := ⟨1, 9, [.t 2],
 (.seq
  (.reg [⟨some 2, none, .mov (.c (.bool false))⟩])
  (.seq
   (.reg [⟨some 3, none, .mov (.t 0)⟩,
    ⟨some 4, none, .bin .geq (.t 3) (.c (.int .i64 0))⟩,
    ⟨some 5, none, .mov (.t 4)⟩,
    ⟨some 6, some (5, true), .mov (.t 0)⟩,
    ⟨some 7, some (5, true), .bin .leq (.t 6) (.c (.int .i64 1000000000000000))⟩,
    ⟨some 8, none, .pick (.t 5) (.t 7) (.c (.bool false))⟩,
    ⟨some 2, none, .mov (.t 8)⟩])
   .ret)), none⟩
def k32 : List (List Nat) := []
def o32 : List Nat := [3000000]
/-- tracebook/tracebookref28.reading -/
def c33 : AFn := ⟨1, 9, [.t 2],
 (.seq
  (.reg [⟨some 2, none, .mov (.c (.bool false))⟩])
  (.seq
   (.reg [⟨some 3, none, .mov (.t 0)⟩,
    ⟨some 4, none, .bin .geq (.t 3) (.c (.int .i64 0))⟩,
    ⟨some 5, none, .mov (.t 4)⟩,
    ⟨some 6, some (5, true), .mov (.t 0)⟩,
    ⟨some 7, some (5, true), .bin .leq (.t 6) (.c (.int .i64 1000000000000))⟩,
    ⟨some 8, none, .pick (.t 5) (.t 7) (.c (.bool false))⟩,
    ⟨some 2, none, .mov (.t 8)⟩])
   .ret)), none⟩
def k33 : List (List Nat) := []
def o33 : List Nat := [3000000]
def tbl : List (Nat × AFn) := [(3, c3), (4, c4), (5, c5), (6, c6), (7, c7), (8, c8), (9, c9), (10, c10), (11, c11), (12, c12), (13, c13), (14, c14), (15, c15), (16, c16), (17, c17), (18, c18), (19, c19), (20, c20), (21, c21), (22, c22), (23, c23), (24, c24), (25, c25), (26, c26), (27, c27), (28, c28), (29, c29), (30, c30), (31, c31), (32, c32), (33, c33)]
theorem d3 : digFn Try.prog o3 k3 Try.f3 = some c3 := by kernel_rfl
theorem d4 : digFn Try.prog o4 k4 Try.f4 = some c4 := by kernel_rfl
theorem d5 : digFn Try.prog o5 k5 Try.f5 = some c5 := by kernel_rfl
theorem d6 : digFn Try.prog o6 k6 Try.f6 = some c6 := by kernel_rfl
theorem d7 : digFn Try.prog o7 k7 Try.f7 = some c7 := by kernel_rfl
theorem d8 : digFn Try.prog o8 k8 Try.f8 = some c8 := by kernel_rfl
theorem d9 : digFn Try.prog o9 k9 Try.f9 = some c9 := by kernel_rfl
theorem d10 : digFn Try.prog o10 k10 Try.f10 = some c10 := by kernel_rfl
theorem d11 : digFn Try.prog o11 k11 Try.f11 = some c11 := by kernel_rfl
theorem d12 : digFn Try.prog o12 k12 Try.f12 = some c12 := by kernel_rfl
theorem d13 : digFn Try.prog o13 k13 Try.f13 = some c13 := by kernel_rfl
theorem d15 : digFn Try.prog o15 k15 Try.f15 = some c15 := by kernel_rfl
theorem d16 : digFn Try.prog o16 k16 Try.f16 = some c16 := by kernel_rfl
theorem d17 : digFn Try.prog o17 k17 Try.f17 = some c17 := by kernel_rfl
theorem d18 : digFn Try.prog o18 k18 Try.f18 = some c18 := by kernel_rfl
theorem d19 : digFn Try.prog o19 k19 Try.f19 = some c19 := by kernel_rfl
theorem d20 : digFn Try.prog o20 k20 Try.f20 = some c20 := by kernel_rfl
theorem d21 : digFn Try.prog o21 k21 Try.f21 = some c21 := by kernel_rfl
theorem d22 : digFn Try.prog o22 k22 Try.f22 = some c22 := by kernel_rfl
theorem d23 : digFn Try.prog o23 k23 Try.f23 = some c23 := by kernel_rfl
theorem d24 : digFn Try.prog o24 k24 Try.f24 = some c24 := by kernel_rfl
theorem d25 : digFn Try.prog o25 k25 Try.f25 = some c25 := by kernel_rfl
theorem d26 : digFn Try.prog o26 k26 Try.f26 = some c26 := by kernel_rfl
theorem d27 : digFn Try.prog o27 k27 Try.f27 = some c27 := by kernel_rfl
theorem d28 : digFn Try.prog o28 k28 Try.f28 = some c28 := by kernel_rfl
theorem d29 : digFn Try.prog o29 k29 Try.f29 = some c29 := by kernel_rfl
theorem d30 : digFn Try.prog o30 k30 Try.f30 = some c30 := by kernel_rfl
theorem d31 : digFn Try.prog o31 k31 Try.f31 = some c31 := by kernel_rfl
theorem d32 : digFn Try.prog o32 k32 Try.f32 = some c32 := by kernel_rfl
theorem d33 : digFn Try.prog o33 k33 Try.f33 = some c33 := by kernel_rfl
def Dg (f : Nat) : Option AFn := lookP tbl f
theorem D3 : Dg 3 = some c3 := by kernel_rfl
theorem D4 : Dg 4 = some c4 := by kernel_rfl
theorem D5 : Dg 5 = some c5 := by kernel_rfl
theorem D6 : Dg 6 = some c6 := by kernel_rfl
theorem D7 : Dg 7 = some c7 := by kernel_rfl
theorem D8 : Dg 8 = some c8 := by kernel_rfl
theorem D9 : Dg 9 = some c9 := by kernel_rfl
theorem D10 : Dg 10 = some c10 := by kernel_rfl
theorem D11 : Dg 11 = some c11 := by kernel_rfl
theorem D12 : Dg 12 = some c12 := by kernel_rfl
theorem D13 : Dg 13 = some c13 := by kernel_rfl
theorem D14 : Dg 14 = some c14 := by kernel_rfl
theorem D15 : Dg 15 = some c15 := by kernel_rfl
theorem D16 : Dg 16 = some c16 := by kernel_rfl
theorem D17 : Dg 17 = some c17 := by kernel_rfl
theorem D18 : Dg 18 = some c18 := by kernel_rfl
theorem D19 : Dg 19 = some c19 := by kernel_rfl
theorem D20 : Dg 20 = some c20 := by kernel_rfl
theorem D21 : Dg 21 = some c21 := by kernel_rfl
theorem D22 : Dg 22 = some c22 := by kernel_rfl
theorem D23 : Dg 23 = some c23 := by kernel_rfl
theorem D24 : Dg 24 = some c24 := by kernel_rfl
theorem D25 : Dg 25 = some c25 := by kernel_rfl
theorem D26 : Dg 26 = some c26 := by kernel_rfl
theorem D27 : Dg 27 = some c27 := by kernel_rfl
theorem D28 : Dg 28 = some c28 := by kernel_rfl
theorem D29 : Dg 29 = some c29 := by kernel_rfl
theorem D30 : Dg 30 = some c30 := by kernel_rfl
theorem D31 : Dg 31 = some c31 := by kernel_rfl
theorem D32 : Dg 32 = some c32 := by kernel_rfl
theorem D33 : Dg 33 = some c33 := by kernel_rfl
theorem dokL [Bs] : ∀ x ∈ tbl, FnOk Try.prog x.1 x.2 :=
  all_cons (fnok Try.func3 d3) (
  all_cons (fnok Try.func4 d4) (
  all_cons (fnok Try.func5 d5) (
  all_cons (fnok Try.func6 d6) (
  all_cons (fnok Try.func7 d7) (
  all_cons (fnok Try.func8 d8) (
  all_cons (fnok Try.func9 d9) (
  all_cons (fnok Try.func10 d10) (
  all_cons (fnok Try.func11 d11) (
  all_cons (fnok Try.func12 d12) (
  all_cons (fnok Try.func13 d13) (
  all_cons (show FnOk Try.prog 14 c14 from ext14) (
  all_cons (fnok Try.func15 d15) (
  all_cons (fnok Try.func16 d16) (
  all_cons (fnok Try.func17 d17) (
  all_cons (fnok Try.func18 d18) (
  all_cons (fnok Try.func19 d19) (
  all_cons (fnok Try.func20 d20) (
  all_cons (fnok Try.func21 d21) (
  all_cons (fnok Try.func22 d22) (
  all_cons (fnok Try.func23 d23) (
  all_cons (fnok Try.func24 d24) (
  all_cons (fnok Try.func25 d25) (
  all_cons (fnok Try.func26 d26) (
  all_cons (fnok Try.func27 d27) (
  all_cons (fnok Try.func28 d28) (
  all_cons (fnok Try.func29 d29) (
  all_cons (fnok Try.func30 d30) (
  all_cons (fnok Try.func31 d31) (
  all_cons (fnok Try.func32 d32) (
  all_cons (fnok Try.func33 d33) (
  all_nil)))))))))))))))))))))))))))))))
theorem dok (bs : Bs) : DOk Try.prog Dg := fun f fc h => dokL (f, fc) (lookP_mem h)

end Go.Proofs.Ytlnaibkpmklkiaa
