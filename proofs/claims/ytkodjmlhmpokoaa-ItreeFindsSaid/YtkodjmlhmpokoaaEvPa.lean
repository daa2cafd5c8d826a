/- The code of the functions, as it is read, the first part. -/
import Derived.Test.YtkodjmlhmpokoaaSs
import Derived.Test.YtkodjmlhmpokoaaSq
import Derived.Test.YtkodjmlhmpokoaaProg
namespace Go.Proofs.Ytkodjmlhmpokoaa
open Go
/-- tracebook/tracebooklaw35.ItreeOf -/
def c3 : AFn := ⟨1, 33, [.t 2],
 (.seq
  (.reg [⟨some 2, none, .mov (.c (.bool false))⟩])
  (.seq
   (.seq
    (.reg [⟨some 5, none, .mov (.t 0)⟩,
     ⟨some 6, none, .len (.t 5)⟩,
     ⟨some 7, none, .bin .gtr (.t 6) (.c (.int .i64 200))⟩])
    (.cond (.t 7)
     (.seq
      (.reg [⟨some 8, none, .call false 8 []⟩,
       ⟨some 2, none, .mov (.t 8)⟩])
      .ret)
     .skip))
   (.seq
    (.reg [⟨some 9, none, .mov (.t 0)⟩,
     ⟨some 10, none, .call false 9 [(.t 9)]⟩,
     ⟨some 11, none, .mov (.t 0)⟩,
     ⟨some 12, none, .call false 10 [(.t 11)]⟩,
     ⟨some 3, none, .alloc [.nilS, .nilS]⟩,
     ⟨some 4, none, .alloc [.nilS, .nilS]⟩,
     ⟨none, none, .store 2 (.t 3) (.t 10)⟩,
     ⟨none, none, .store 2 (.t 4) (.t 12)⟩])
    (.seq
     (.reg [⟨some 13, none, .faddr 0 (.t 3)⟩,
      ⟨some 14, none, .load 1 false (.t 13)⟩,
      ⟨some 15, none, .faddr 0 (.t 4)⟩,
      ⟨some 16, none, .load 1 false (.t 15)⟩,
      ⟨some 17, none, .call false 11 [(.t 14), (.t 16)]⟩,
      ⟨some 18, none, .mov (.t 17)⟩,
      ⟨some 19, some (18, true), .faddr 1 (.t 3)⟩,
      ⟨some 20, some (18, true), .load 1 false (.t 19)⟩,
      ⟨some 21, some (18, true), .faddr 1 (.t 4)⟩,
      ⟨some 22, some (18, true), .load 1 false (.t 21)⟩,
      ⟨some 23, some (18, true), .call false 11 [(.t 20), (.t 22)]⟩,
      ⟨some 24, none, .pick (.t 18) (.t 23) (.c (.bool false))⟩,
      ⟨some 25, none, .mov (.t 24)⟩,
      ⟨some 26, some (25, true), .mov (.t 0)⟩,
      ⟨some 27, some (25, true), .load 2 true (.t 3)⟩,
      ⟨some 28, some (25, true), .call false 12 [(.t 26), (.t 27)]⟩,
      ⟨some 29, none, .pick (.t 25) (.t 28) (.c (.bool false))⟩,
      ⟨some 30, none, .mov (.t 29)⟩,
      ⟨some 31, some (30, true), .call false 8 []⟩,
      ⟨some 32, none, .pick (.t 30) (.t 31) (.c (.bool false))⟩,
      ⟨some 2, none, .mov (.t 32)⟩])
     .ret)))), none⟩
def k3 : List (List Nat) := []
def o3 : List Nat := [1000023, 1000027, 1000029, 1000031, 1000032, 1000037, 1000041, 1000042, 1000044, 1000046, 1000047, 1000048, 1000049, 1000050, 1000051, 1000052, 1000053, 1000057, 1000058, 1000059, 1000060, 1000061, 1000062, 1000064, 1000065, 1000066, 1000067, 1000070, 1000071, 1000072, 1000073, 1000074, 1000075, 1000076, 1000077, 1000078, 1000079, 1000080, 1000081, 1000082, 1000083, 1000084, 1000085, 1000086, 1000087, 1000088, 3000000]
/-- tracebook/tracebooklaw35.ItreeChecks -/
def c4 : AFn := ⟨3, 57, [.t 6],
 (.seq
  (.reg [⟨some 4, none, .box (.t 1)⟩,
   ⟨some 5, none, .box (.t 2)⟩,
   ⟨some 6, none, .mov (.c (.bool false))⟩])
  (.seq
   (.seq
    (.reg [⟨some 7, none, .mov (.t 0)⟩,
     ⟨some 8, none, .load 2 true (.t 4)⟩,
     ⟨some 9, none, .call false 13 [(.t 7), (.t 8)]⟩,
     ⟨some 10, none, .un .not (.t 9)⟩])
    (.cond (.t 10)
     (.seq
      (.reg [⟨some 11, none, .call false 8 []⟩,
       ⟨some 6, none, .mov (.t 11)⟩])
      .ret)
     .skip))
   (.seq
    (.reg [⟨some 12, none, .mov (.t 0)⟩,
     ⟨some 13, none, .load 2 true (.t 4)⟩,
     ⟨some 14, none, .call false 12 [(.t 12), (.t 13)]⟩,
     ⟨some 15, none, .mov (.t 0)⟩,
     ⟨some 16, none, .load 2 true (.t 4)⟩,
     ⟨some 17, none, .call false 14 [(.t 15), (.t 16)]⟩,
     ⟨some 18, none, .beq false (.t 14) (.t 17)⟩,
     ⟨some 19, none, .mov (.t 18)⟩,
     ⟨some 20, some (19, true), .mov (.t 0)⟩,
     ⟨some 21, some (19, true), .load 2 true (.t 4)⟩,
     ⟨some 22, some (19, true), .load 2 true (.t 5)⟩,
     ⟨some 23, some (19, true), .call false 15 [(.t 20), (.t 21), (.t 22)]⟩,
     ⟨some 24, some (19, true), .mov (.t 0)⟩,
     ⟨some 25, some (19, true), .load 2 true (.t 4)⟩,
     ⟨some 26, some (19, true), .load 2 true (.t 5)⟩,
     ⟨some 27, some (19, true), .call false 16 [(.t 24), (.t 25), (.t 26)]⟩,
     ⟨some 28, some (19, true), .call false 11 [(.t 23), (.t 27)]⟩,
     ⟨some 29, none, .pick (.t 19) (.t 28) (.c (.bool false))⟩,
     ⟨some 30, none, .mov (.t 29)⟩,
     ⟨some 31, some (30, true), .mov (.t 0)⟩,
     ⟨some 32, some (30, true), .load 2 true (.t 4)⟩,
     ⟨some 33, some (30, true), .faddr 0 (.t 5)⟩,
     ⟨some 34, some (30, true), .load 1 false (.t 33)⟩,
     ⟨some 35, some (30, true), .call false 17 [(.t 31), (.t 32), (.t 34)]⟩,
     ⟨some 36, some (30, true), .mov (.t 0)⟩,
     ⟨some 37, some (30, true), .load 2 true (.t 4)⟩,
     ⟨some 38, some (30, true), .faddr 0 (.t 5)⟩,
     ⟨some 39, some (30, true), .load 1 false (.t 38)⟩,
     ⟨some 40, some (30, true), .call false 18 [(.t 36), (.t 37), (.t 39)]⟩,
     ⟨some 41, some (30, true), .call false 11 [(.t 35), (.t 40)]⟩,
     ⟨some 42, none, .pick (.t 30) (.t 41) (.c (.bool false))⟩,
     ⟨some 43, none, .mov (.t 42)⟩,
     ⟨some 44, some (43, true), .mov (.t 0)⟩,
     ⟨some 45, some (43, true), .load 2 true (.t 4)⟩,
     ⟨some 46, some (43, true), .load 2 true (.t 5)⟩,
     ⟨some 47, some (43, true), .call false 19 [(.t 44), (.t 45), (.t 46)]⟩,
     ⟨some 48, some (43, true), .mov (.t 0)⟩,
     ⟨some 49, some (43, true), .load 2 true (.t 4)⟩,
     ⟨some 50, some (43, true), .load 2 true (.t 5)⟩,
     ⟨some 51, some (43, true), .call false 20 [(.t 48), (.t 49), (.t 50)]⟩,
     ⟨some 52, some (43, true), .bin .eql (.t 47) (.t 51)⟩,
     ⟨some 53, none, .pick (.t 43) (.t 52) (.c (.bool false))⟩,
     ⟨some 54, none, .mov (.t 53)⟩,
     ⟨some 55, some (54, true), .call false 8 []⟩,
     ⟨some 56, none, .pick (.t 54) (.t 55) (.c (.bool false))⟩,
     ⟨some 6, none, .mov (.t 56)⟩])
    .ret))), none⟩
def k4 : List (List Nat) := []
def o4 : List Nat := [1000023, 1000027, 1000029, 1000031, 1000032, 1000037, 1000041, 1000042, 1000044, 1000046, 1000047, 1000048, 1000049, 1000050, 1000051, 1000052, 1000053, 1000057, 1000058, 1000059, 1000060, 1000061, 1000062, 1000064, 1000065, 1000066, 1000067, 1000070, 1000071, 1000072, 1000073, 1000074, 1000075, 1000076, 1000077, 1000078, 1000079, 1000080, 1000081, 1000082, 1000083, 1000084, 1000085, 1000086, 1000087, 1000088, 3000000]
def c5b0 : AC := (.seq
           (.seq
            (.reg [⟨some 32, none, .mov (.t 5)⟩,
             ⟨some 33, none, .faddr 0 (.t 3)⟩,
             ⟨some 34, none, .load 1 false (.t 33)⟩,
             ⟨some 35, none, .len (.t 34)⟩,
             ⟨some 36, none, .bin .lss (.t 32) (.t 35)⟩])
            (.cond (.t 36)
             .skip
             (.exit 0)))
           (.seq
            (.block 1
             (.seq
              (.reg [⟨some 39, none, .faddr 0 (.t 3)⟩,
               ⟨some 40, none, .load 1 false (.t 39)⟩,
               ⟨some 41, none, .mov (.t 5)⟩,
               ⟨some 42, none, .iaddr (.slice 1) (.t 40) (.t 41)⟩,
               ⟨some 43, none, .load 1 false (.t 42)⟩,
               ⟨some 6, none, .mov (.t 43)⟩])
              (.seq
               (.seq
                (.reg [⟨some 44, none, .mov (.t 6)⟩,
                 ⟨some 45, none, .bin .lss (.t 44) (.c (.int .i64 0))⟩,
                 ⟨some 46, none, .mov (.t 45)⟩,
                 ⟨some 47, some (46, false), .mov (.t 6)⟩,
                 ⟨some 48, some (46, false), .mov (.t 0)⟩,
                 ⟨some 49, some (46, false), .len (.t 48)⟩,
                 ⟨some 50, some (46, false), .bin .geq (.t 47) (.t 49)⟩,
                 ⟨some 51, none, .pick (.t 46) (.c (.bool true)) (.t 50)⟩,
                 ⟨some 52, none, .mov (.t 51)⟩,
                 ⟨some 53, some (52, false), .mov (.t 4)⟩,
                 ⟨some 54, some (52, false), .mov (.t 6)⟩,
                 ⟨some 55, some (52, false), .iaddr (.slice 1) (.t 53) (.t 54)⟩,
                 ⟨some 56, some (52, false), .load 1 false (.t 55)⟩,
                 ⟨some 57, none, .pick (.t 52) (.c (.bool true)) (.t 56)⟩,
                 ⟨some 58, none, .mov (.t 57)⟩,
                 ⟨some 59, some (58, false), .faddr 1 (.t 3)⟩,
                 ⟨some 60, some (58, false), .load 1 false (.t 59)⟩,
                 ⟨some 61, some (58, false), .mov (.t 5)⟩,
                 ⟨some 62, some (58, false), .iaddr (.slice 1) (.t 60) (.t 61)⟩,
                 ⟨some 63, some (58, false), .load 1 false (.t 62)⟩,
                 ⟨some 64, some (58, false), .mov (.t 0)⟩,
                 ⟨some 65, some (58, false), .mov (.t 6)⟩,
                 ⟨some 66, some (58, false), .iaddr (.slice 2) (.t 64) (.t 65)⟩,
                 ⟨some 67, some (58, false), .faddr 1 (.t 66)⟩,
                 ⟨some 68, some (58, false), .load 1 false (.t 67)⟩,
                 ⟨some 69, some (58, false), .bin .lss (.t 63) (.t 68)⟩,
                 ⟨some 70, none, .pick (.t 58) (.c (.bool true)) (.t 69)⟩,
                 ⟨some 71, none, .mov (.t 70)⟩,
                 ⟨some 72, some (71, false), .faddr 1 (.t 3)⟩,
                 ⟨some 73, some (71, false), .load 1 false (.t 72)⟩,
                 ⟨some 74, some (71, false), .mov (.t 5)⟩,
                 ⟨some 75, some (71, false), .iaddr (.slice 1) (.t 73) (.t 74)⟩,
                 ⟨some 76, some (71, false), .load 1 false (.t 75)⟩,
                 ⟨some 77, some (71, false), .faddr 1 (.t 3)⟩,
                 ⟨some 78, some (71, false), .load 1 false (.t 77)⟩,
                 ⟨some 79, some (71, false), .mov (.t 0)⟩,
                 ⟨some 80, some (71, false), .len (.t 79)⟩,
                 ⟨some 81, some (71, false), .bin .quo (.t 80) (.c (.int .i64 2))⟩,
                 ⟨some 82, some (71, false), .iaddr (.slice 1) (.t 78) (.t 81)⟩,
                 ⟨some 83, some (71, false), .load 1 false (.t 82)⟩,
                 ⟨some 84, some (71, false), .bin .gtr (.t 76) (.t 83)⟩,
                 ⟨some 85, none, .pick (.t 71) (.c (.bool true)) (.t 84)⟩])
                (.cond (.t 85)
                 (.seq
                  (.reg [⟨some 2, none, .mov (.c (.bool false))⟩])
                  .ret)
                 .skip))
               (.seq
                (.reg [⟨some 86, none, .mov (.t 4)⟩,
                 ⟨some 87, none, .mov (.t 6)⟩,
                 ⟨some 88, none, .iaddr (.slice 1) (.t 86) (.t 87)⟩,
                 ⟨none, none, .store 1 (.t 88) (.c (.bool true))⟩])
                (.seq
                 (.seq
                  (.reg [⟨some 89, none, .mov (.t 5)⟩,
                   ⟨some 90, none, .bin .eql (.t 89) (.c (.int .i64 0))⟩])
                  (.cond (.t 90)
                   (.exit 1)
                   .skip))
                 (.seq
                  (.regd [11, 12] [⟨some 91, none, .mov (.t 0)⟩,
                   ⟨some 92, none, .faddr 0 (.t 3)⟩,
                   ⟨some 93, none, .load 1 false (.t 92)⟩,
                   ⟨some 94, none, .mov (.t 5)⟩,
                   ⟨some 95, none, .bin .sub (.t 94) (.c (.int .i64 1))⟩,
                   ⟨some 96, none, .iaddr (.slice 1) (.t 93) (.t 95)⟩,
                   ⟨some 97, none, .load 1 false (.t 96)⟩,
                   ⟨some 98, none, .iaddr (.slice 2) (.t 91) (.t 97)⟩,
                   ⟨some 99, none, .load 2 true (.t 98)⟩,
                   ⟨some 100, none, .mov (.t 0)⟩,
                   ⟨some 101, none, .mov (.t 6)⟩,
                   ⟨some 102, none, .iaddr (.slice 2) (.t 100) (.t 101)⟩,
                   ⟨some 103, none, .load 2 true (.t 102)⟩,
                   ⟨some 7, none, .alloc [(.int .i64 0), (.int .i64 0)]⟩,
                   ⟨some 8, none, .alloc [(.int .i64 0), (.int .i64 0)]⟩,
                   ⟨none, none, .store 2 (.t 7) (.t 99)⟩,
                   ⟨none, none, .store 2 (.t 8) (.t 103)⟩])
                  (.seq
                   (.reg [⟨some 104, none, .faddr 0 (.t 7)⟩,
                    ⟨some 105, none, .load 1 false (.t 104)⟩,
                    ⟨some 106, none, .faddr 0 (.t 8)⟩,
                    ⟨some 107, none, .load 1 false (.t 106)⟩,
                    ⟨some 108, none, .bin .gtr (.t 105) (.t 107)⟩,
                    ⟨some 109, none, .mov (.t 108)⟩,
                    ⟨some 110, some (109, false), .faddr 0 (.t 7)⟩,
                    ⟨some 111, some (109, false), .load 1 false (.t 110)⟩,
                    ⟨some 112, some (109, false), .faddr 0 (.t 8)⟩,
                    ⟨some 113, some (109, false), .load 1 false (.t 112)⟩,
                    ⟨some 114, some (109, false), .bin .eql (.t 111) (.t 113)⟩,
                    ⟨some 115, some (109, false), .mov (.t 114)⟩,
                    ⟨some 116, some (115, true), .faddr 1 (.t 7)⟩,
                    ⟨some 117, some (115, true), .load 1 false (.t 116)⟩,
                    ⟨some 118, some (115, true), .faddr 1 (.t 8)⟩,
                    ⟨some 119, some (115, true), .load 1 false (.t 118)⟩,
                    ⟨some 120, some (115, true), .bin .gtr (.t 117) (.t 119)⟩,
                    ⟨some 121, some (109, false), .pick (.t 115) (.t 120) (.c (.bool false))⟩,
                    ⟨some 122, none, .pick (.t 109) (.c (.bool true)) (.t 121)⟩,
                    ⟨some 123, none, .mov (.t 122)⟩,
                    ⟨some 124, some (123, false), .load 2 true (.t 7)⟩,
                    ⟨some 125, some (123, false), .load 2 true (.t 8)⟩,
                    ⟨some 126, some (123, false), .beqA false [.i, .i] (.t 124) (.t 125)⟩,
                    ⟨some 127, some (123, false), .mov (.t 126)⟩,
                    ⟨some 128, some (127, true), .faddr 0 (.t 3)⟩,
                    ⟨some 129, some (127, true), .load 1 false (.t 128)⟩,
                    ⟨some 130, some (127, true), .mov (.t 5)⟩,
                    ⟨some 131, some (127, true), .bin .sub (.t 130) (.c (.int .i64 1))⟩,
                    ⟨some 132, some (127, true), .iaddr (.slice 1) (.t 129) (.t 131)⟩,
                    ⟨some 133, some (127, true), .load 1 false (.t 132)⟩,
                    ⟨some 134, some (127, true), .mov (.t 6)⟩,
                    ⟨some 135, some (127, true), .bin .gtr (.t 133) (.t 134)⟩,
                    ⟨some 136, some (123, false), .pick (.t 127) (.t 135) (.c (.bool false))⟩,
                    ⟨some 137, none, .pick (.t 123) (.c (.bool true)) (.t 136)⟩])
                   (.cond (.t 137)
                    (.seq
                     (.reg [⟨some 2, none, .mov (.c (.bool false))⟩])
                     .ret)
                    .skip))))))))
            (.reg [⟨some 37, none, .mov (.t 5)⟩,
             ⟨some 38, none, .bin .add (.t 37) (.c (.int .i64 1))⟩,
             ⟨some 5, none, .mov (.t 38)⟩])))
def c5r0 : AC := (.seq
        (.reg [⟨some 138, none, .call false 8 []⟩,
         ⟨some 2, none, .mov (.t 138)⟩])
        .ret)
/-- tracebook/tracebooklaw35.ItreeSorts -/
def c5 : AFn := ⟨1, 139, [.t 2],
 (.seq
  (.reg [⟨some 2, none, .mov (.c (.bool false))⟩])
  (.seq
   (.seq
    (.reg [⟨some 9, none, .mov (.t 0)⟩,
     ⟨some 10, none, .len (.t 9)⟩,
     ⟨some 11, none, .bin .gtr (.t 10) (.c (.int .i64 200))⟩])
    (.cond (.t 11)
     (.seq
      (.reg [⟨some 12, none, .call false 8 []⟩,
       ⟨some 2, none, .mov (.t 12)⟩])
      .ret)
     .skip))
   (.seq
    (.reg [⟨some 13, none, .mov (.t 0)⟩,
     ⟨some 14, none, .call false 9 [(.t 13)]⟩,
     ⟨some 3, none, .alloc [.nilS, .nilS]⟩,
     ⟨none, none, .store 2 (.t 3) (.t 14)⟩])
    (.seq
     (.seq
      (.reg [⟨some 15, none, .faddr 0 (.t 3)⟩,
       ⟨some 16, none, .load 1 false (.t 15)⟩,
       ⟨some 17, none, .len (.t 16)⟩,
       ⟨some 18, none, .mov (.t 0)⟩,
       ⟨some 19, none, .len (.t 18)⟩,
       ⟨some 20, none, .bin .neq (.t 17) (.t 19)⟩,
       ⟨some 21, none, .mov (.t 20)⟩,
       ⟨some 22, some (21, false), .faddr 1 (.t 3)⟩,
       ⟨some 23, some (21, false), .load 1 false (.t 22)⟩,
       ⟨some 24, some (21, false), .len (.t 23)⟩,
       ⟨some 25, some (21, false), .mov (.t 0)⟩,
       ⟨some 26, some (21, false), .len (.t 25)⟩,
       ⟨some 27, some (21, false), .bin .neq (.t 24) (.t 26)⟩,
       ⟨some 28, none, .pick (.t 21) (.c (.bool true)) (.t 27)⟩])
      (.cond (.t 28)
       (.seq
        (.reg [⟨some 2, none, .mov (.c (.bool false))⟩])
        .ret)
       .skip))
     (.seq
      (.reg [⟨some 29, none, .mov (.t 0)⟩,
       ⟨some 30, none, .len (.t 29)⟩,
       ⟨some 31, none, .make 1 1 [(.bool false)] (.t 30) (.t 30)⟩,
       ⟨some 4, none, .mov (.t 31)⟩])
      (.seq
       (.seq
        (.reg [⟨some 5, none, .mov (.c (.int .i64 0))⟩])
        (.block 0
         (.loop [0, 3, 4, 5]
          c5b0)))
       c5r0)))))), none⟩
def k5 : List (List Nat) := [[0, 3, 4, 5]]
def o5 : List Nat := [1000023, 1000027, 1000029, 1000031, 1000032, 1000037, 1000041, 1000042, 1000044, 1000046, 1000047, 1000048, 1000049, 1000050, 1000051, 1000052, 1000053, 1000057, 1000058, 1000059, 1000060, 1000061, 1000062, 1000064, 1000065, 1000066, 1000067, 1000070, 1000071, 1000072, 1000073, 1000074, 1000075, 1000076, 1000077, 1000078, 1000079, 1000080, 1000081, 1000082, 1000083, 1000084, 1000085, 1000086, 1000087, 1000088, 3000000, 31]
def c6b0 : AC := (.seq
           (.seq
            (.reg [⟨some 23, none, .mov (.t 10)⟩,
             ⟨some 24, none, .mov (.t 0)⟩,
             ⟨some 25, none, .len (.t 24)⟩,
             ⟨some 26, none, .bin .lss (.t 23) (.t 25)⟩])
            (.cond (.t 26)
             .skip
             (.exit 0)))
           (.seq
            (.block 1
             (.seq
              (.seq
               (.reg [⟨some 29, none, .mov (.t 0)⟩,
                ⟨some 30, none, .mov (.t 10)⟩,
                ⟨some 31, none, .iaddr (.slice 2) (.t 29) (.t 30)⟩,
                ⟨some 32, none, .load 2 true (.t 31)⟩,
                ⟨some 33, none, .bslice false 2 [(.int .i64 0), (.int .i64 0)] 1 [(0, (.t 32))]⟩,
                ⟨some 34, none, .load 2 true (.t 4)⟩,
                ⟨some 35, none, .bslice false 2 [(.int .i64 0), (.int .i64 0)] 1 [(0, (.t 34))]⟩,
                ⟨some 36, none, .call false 21 [(.t 33), (.t 35)]⟩,
                ⟨some 37, none, .len (.t 36)⟩,
                ⟨some 38, none, .bin .eql (.t 37) (.c (.int .i64 0))⟩])
               (.cond (.t 38)
                (.exit 1)
                .skip))
              (.seq
               (.seq
                (.reg [⟨some 39, none, .mov (.t 9)⟩,
                 ⟨some 40, none, .mov (.t 8)⟩,
                 ⟨some 41, none, .len (.t 40)⟩,
                 ⟨some 42, none, .bin .geq (.t 39) (.t 41)⟩,
                 ⟨some 43, none, .mov (.t 42)⟩,
                 ⟨some 44, some (43, false), .mov (.t 8)⟩,
                 ⟨some 45, some (43, false), .mov (.t 9)⟩,
                 ⟨some 46, some (43, false), .iaddr (.slice 1) (.t 44) (.t 45)⟩,
                 ⟨some 47, some (43, false), .load 1 false (.t 46)⟩,
                 ⟨some 48, some (43, false), .mov (.t 10)⟩,
                 ⟨some 49, some (43, false), .bin .neq (.t 47) (.t 48)⟩,
                 ⟨some 50, none, .pick (.t 43) (.c (.bool true)) (.t 49)⟩])
                (.cond (.t 50)
                 (.seq
                  (.reg [⟨some 6, none, .mov (.c (.bool false))⟩])
                  .ret)
                 .skip))
               (.reg [⟨some 51, none, .mov (.t 9)⟩,
                ⟨some 52, none, .bin .add (.t 51) (.c (.int .i64 1))⟩,
                ⟨some 9, none, .mov (.t 52)⟩]))))
            (.reg [⟨some 27, none, .mov (.t 10)⟩,
             ⟨some 28, none, .bin .add (.t 27) (.c (.int .i64 1))⟩,
             ⟨some 10, none, .mov (.t 28)⟩])))
def c6r0 : AC := (.seq
        (.reg [⟨some 53, none, .mov (.t 0)⟩,
         ⟨some 54, none, .load 2 true (.t 7)⟩,
         ⟨some 55, none, .load 2 true (.t 4)⟩,
         ⟨some 56, none, .call false 19 [(.t 53), (.t 54), (.t 55)]⟩,
         ⟨some 11, none, .mov (.t 56)⟩])
        (.seq
         (.seq
          (.reg [⟨some 57, none, .mov (.t 9)⟩,
           ⟨some 58, none, .mov (.t 8)⟩,
           ⟨some 59, none, .len (.t 58)⟩,
           ⟨some 60, none, .bin .neq (.t 57) (.t 59)⟩,
           ⟨some 61, none, .mov (.t 60)⟩,
           ⟨some 62, some (61, false), .mov (.t 11)⟩,
           ⟨some 63, some (61, false), .mov (.t 0)⟩,
           ⟨some 64, some (61, false), .len (.t 63)⟩,
           ⟨some 65, some (61, false), .bin .gtr (.t 62) (.t 64)⟩,
           ⟨some 66, none, .pick (.t 61) (.c (.bool true)) (.t 65)⟩,
           ⟨some 67, none, .mov (.t 66)⟩,
           ⟨some 68, some (67, false), .mov (.t 11)⟩,
           ⟨some 69, some (67, false), .mov (.t 8)⟩,
           ⟨some 70, some (67, false), .len (.t 69)⟩,
           ⟨some 71, some (67, false), .bin .lss (.t 68) (.t 70)⟩,
           ⟨some 72, none, .pick (.t 67) (.c (.bool true)) (.t 71)⟩])
          (.cond (.t 72)
           (.seq
            (.reg [⟨some 6, none, .mov (.c (.bool false))⟩])
            .ret)
           .skip))
         (.seq
          (.reg [⟨some 73, none, .mov (.t 0)⟩,
           ⟨some 74, none, .load 2 true (.t 7)⟩,
           ⟨some 75, none, .mov (.t 2)⟩,
           ⟨some 76, none, .mov (.t 2)⟩,
           ⟨some 77, none, .bin .add (.t 76) (.c (.int .i64 1))⟩,
           ⟨some 78, none, .call false 22 [(.t 75), (.t 77)]⟩,
           ⟨some 79, none, .call false 15 [(.t 73), (.t 74), (.t 78)]⟩,
           ⟨some 12, none, .mov (.t 79)⟩])
          (.seq
           (.seq
            (.reg [⟨some 80, none, .mov (.t 2)⟩,
             ⟨some 81, none, .bin .lss (.t 80) (.c (.int .i64 0))⟩,
             ⟨some 82, none, .mov (.t 81)⟩,
             ⟨some 83, some (82, false), .mov (.t 2)⟩,
             ⟨some 84, some (82, false), .bin .geq (.t 83) (.c (.int .i64 1000000000000))⟩,
             ⟨some 85, none, .pick (.t 82) (.c (.bool true)) (.t 84)⟩])
            (.cond (.t 85)
             (.reg [⟨some 12, none, .nilv 1⟩])
             .skip))
           (.seq
            (.reg [⟨some 86, none, .mov (.t 0)⟩,
             ⟨some 87, none, .load 2 true (.t 7)⟩,
             ⟨some 88, none, .mov (.t 2)⟩,
             ⟨some 89, none, .call false 17 [(.t 86), (.t 87), (.t 88)]⟩,
             ⟨some 90, none, .mov (.t 12)⟩,
             ⟨some 91, none, .call false 11 [(.t 89), (.t 90)]⟩,
             ⟨some 92, none, .mov (.t 91)⟩,
             ⟨some 93, some (92, true), .call false 8 []⟩,
             ⟨some 94, none, .pick (.t 92) (.t 93) (.c (.bool false))⟩,
             ⟨some 6, none, .mov (.t 94)⟩])
            .ret)))))
/-- tracebook/tracebooklaw35.ItreeFinds -/
def c6 : AFn := ⟨3, 95, [.t 6],
 (.seq
  (.reg [⟨some 4, none, .box (.t 1)⟩,
   ⟨some 6, none, .mov (.c (.bool false))⟩])
  (.seq
   (.seq
    (.reg [⟨some 13, none, .mov (.t 0)⟩,
     ⟨some 14, none, .len (.t 13)⟩,
     ⟨some 15, none, .bin .gtr (.t 14) (.c (.int .i64 200))⟩])
    (.cond (.t 15)
     (.seq
      (.reg [⟨some 16, none, .call false 8 []⟩,
       ⟨some 6, none, .mov (.t 16)⟩])
      .ret)
     .skip))
   (.seq
    (.reg [⟨some 17, none, .mov (.t 0)⟩,
     ⟨some 18, none, .call false 9 [(.t 17)]⟩,
     ⟨some 7, none, .alloc [.nilS, .nilS]⟩,
     ⟨none, none, .store 2 (.t 7) (.t 18)⟩])
    (.seq
     (.reg [⟨some 19, none, .mov (.t 0)⟩,
      ⟨some 20, none, .load 2 true (.t 7)⟩,
      ⟨some 21, none, .load 2 true (.t 4)⟩,
      ⟨some 22, none, .call false 15 [(.t 19), (.t 20), (.t 21)]⟩,
      ⟨some 8, none, .mov (.t 22)⟩])
     (.seq
      (.reg [⟨some 9, none, .mov (.c (.int .i64 0))⟩])
      (.seq
       (.seq
        (.reg [⟨some 10, none, .mov (.c (.int .i64 0))⟩])
        (.block 0
         (.loop [0, 2, 4, 7, 8, 9, 10]
          c6b0)))
       c6r0)))))), none⟩
def k6 : List (List Nat) := [[0, 2, 4, 7, 8, 9, 10]]
def o6 : List Nat := [1000023, 1000027, 1000029, 1000031, 1000032, 1000037, 1000041, 1000042, 1000044, 1000046, 1000047, 1000048, 1000049, 1000050, 1000051, 1000052, 1000053, 1000057, 1000058, 1000059, 1000060, 1000061, 1000062, 1000064, 1000065, 1000066, 1000067, 1000070, 1000071, 1000072, 1000073, 1000074, 1000075, 1000076, 1000077, 1000078, 1000079, 1000080, 1000081, 1000082, 1000083, 1000084, 1000085, 1000086, 1000087, 1000088, 3000000]
def c7b0 : AC := (.seq
           (.seq
            (.reg [⟨some 23, none, .mov (.t 9)⟩,
             ⟨some 24, none, .mov (.t 0)⟩,
             ⟨some 25, none, .len (.t 24)⟩,
             ⟨some 26, none, .bin .lss (.t 23) (.t 25)⟩])
            (.cond (.t 26)
             .skip
             (.exit 2)))
           (.seq
            (.block 3
             (.seq
              (.reg [⟨some 29, none, .mov (.t 5)⟩,
               ⟨some 30, none, .mov (.t 29)⟩,
               ⟨some 31, some (30, true), .mov (.t 0)⟩,
               ⟨some 32, some (30, true), .mov (.t 9)⟩,
               ⟨some 33, some (30, true), .iaddr (.slice 2) (.t 31) (.t 32)⟩,
               ⟨some 34, some (30, true), .faddr 0 (.t 33)⟩,
               ⟨some 35, some (30, true), .load 1 false (.t 34)⟩,
               ⟨some 36, some (30, true), .faddr 1 (.t 3)⟩,
               ⟨some 37, some (30, true), .load 1 false (.t 36)⟩,
               ⟨some 38, some (30, true), .bin .geq (.t 35) (.t 37)⟩,
               ⟨some 39, none, .pick (.t 30) (.t 38) (.c (.bool false))⟩,
               ⟨some 5, none, .mov (.t 39)⟩])
              (.reg [⟨some 40, none, .mov (.t 6)⟩,
               ⟨some 41, none, .mov (.t 40)⟩,
               ⟨some 42, some (41, true), .mov (.t 0)⟩,
               ⟨some 43, some (41, true), .mov (.t 9)⟩,
               ⟨some 44, some (41, true), .iaddr (.slice 2) (.t 42) (.t 43)⟩,
               ⟨some 45, some (41, true), .faddr 1 (.t 44)⟩,
               ⟨some 46, some (41, true), .load 1 false (.t 45)⟩,
               ⟨some 47, some (41, true), .faddr 0 (.t 3)⟩,
               ⟨some 48, some (41, true), .load 1 false (.t 47)⟩,
               ⟨some 49, some (41, true), .bin .leq (.t 46) (.t 48)⟩,
               ⟨some 50, none, .pick (.t 41) (.t 49) (.c (.bool false))⟩,
               ⟨some 6, none, .mov (.t 50)⟩])))
            (.reg [⟨some 27, none, .mov (.t 9)⟩,
             ⟨some 28, none, .bin .add (.t 27) (.c (.int .i64 1))⟩,
             ⟨some 9, none, .mov (.t 28)⟩])))
def c7b1 : AC := (.seq
          (.seq
           (.reg [⟨some 17, none, .mov (.t 8)⟩,
            ⟨some 18, none, .bin .gtr (.t 17) (.c (.int .i64 0))⟩])
           (.cond (.t 18)
            .skip
            (.exit 0)))
          (.seq
           (.block 1
            (.reg [⟨some 21, none, .mov (.t 7)⟩,
             ⟨some 22, none, .bin .add (.t 21) (.c (.int .i64 1))⟩,
             ⟨some 7, none, .mov (.t 22)⟩]))
           (.reg [⟨some 19, none, .mov (.t 8)⟩,
            ⟨some 20, none, .bin .quo (.t 19) (.c (.int .i64 2))⟩,
            ⟨some 8, none, .mov (.t 20)⟩])))
def c7r0 : AC := (.seq
        (.reg [⟨some 51, none, .mov (.t 0)⟩,
         ⟨some 52, none, .mov (.t 0)⟩,
         ⟨some 53, none, .call false 9 [(.t 52)]⟩,
         ⟨some 54, none, .load 2 true (.t 3)⟩,
         ⟨some 55, none, .call false 19 [(.t 51), (.t 53), (.t 54)]⟩,
         ⟨some 10, none, .mov (.t 55)⟩])
        (.seq
         (.seq
          (.reg [⟨some 56, none, .mov (.t 6)⟩,
           ⟨some 57, none, .mov (.t 56)⟩,
           ⟨some 58, some (57, true), .mov (.t 10)⟩,
           ⟨some 59, some (57, true), .bin .neq (.t 58) (.c (.int .i64 0))⟩,
           ⟨some 60, none, .pick (.t 57) (.t 59) (.c (.bool false))⟩,
           ⟨some 61, none, .mov (.t 60)⟩,
           ⟨some 62, some (61, false), .mov (.t 5)⟩,
           ⟨some 63, some (61, false), .mov (.t 62)⟩,
           ⟨some 64, some (63, true), .mov (.t 10)⟩,
           ⟨some 65, some (63, true), .mov (.t 7)⟩,
           ⟨some 66, some (63, true), .bin .gtr (.t 64) (.t 65)⟩,
           ⟨some 67, some (61, false), .pick (.t 63) (.t 66) (.c (.bool false))⟩,
           ⟨some 68, none, .pick (.t 61) (.c (.bool true)) (.t 67)⟩])
          (.cond (.t 68)
           (.seq
            (.reg [⟨some 4, none, .mov (.c (.bool false))⟩])
            .ret)
           .skip))
         (.seq
          (.reg [⟨some 69, none, .mov (.t 10)⟩,
           ⟨some 70, none, .bin .geq (.t 69) (.c (.int .i64 0))⟩,
           ⟨some 71, none, .mov (.t 70)⟩,
           ⟨some 72, some (71, true), .mov (.t 10)⟩,
           ⟨some 73, some (71, true), .mov (.t 0)⟩,
           ⟨some 74, some (71, true), .len (.t 73)⟩,
           ⟨some 75, some (71, true), .bin .leq (.t 72) (.t 74)⟩,
           ⟨some 76, none, .pick (.t 71) (.t 75) (.c (.bool false))⟩,
           ⟨some 77, none, .mov (.t 76)⟩,
           ⟨some 78, some (77, true), .call false 8 []⟩,
           ⟨some 79, none, .pick (.t 77) (.t 78) (.c (.bool false))⟩,
           ⟨some 4, none, .mov (.t 79)⟩])
          .ret)))
def c7r1 : AC := (.seq
       (.seq
        (.reg [⟨some 9, none, .mov (.c (.int .i64 0))⟩])
        (.block 2
         (.loop [0, 3, 5, 6, 7, 9]
          c7b0)))
       c7r0)
/-- tracebook/tracebooklaw35.ItreeVisits -/
def c7 : AFn := ⟨2, 80, [.t 4],
 (.seq
  (.reg [⟨some 3, none, .box (.t 1)⟩,
   ⟨some 4, none, .mov (.c (.bool false))⟩])
  (.seq
   (.seq
    (.reg [⟨some 11, none, .mov (.t 0)⟩,
     ⟨some 12, none, .len (.t 11)⟩,
     ⟨some 13, none, .bin .gtr (.t 12) (.c (.int .i64 200))⟩])
    (.cond (.t 13)
     (.seq
      (.reg [⟨some 14, none, .call false 8 []⟩,
       ⟨some 4, none, .mov (.t 14)⟩])
      .ret)
     .skip))
   (.seq
    (.reg [⟨some 5, none, .mov (.c (.bool true))⟩,
     ⟨some 6, none, .mov (.c (.bool true))⟩])
    (.seq
     (.reg [⟨some 7, none, .mov (.c (.int .i64 0))⟩])
     (.seq
      (.seq
       (.reg [⟨some 15, none, .mov (.t 0)⟩,
        ⟨some 16, none, .len (.t 15)⟩,
        ⟨some 8, none, .mov (.t 16)⟩])
       (.block 0
        (.loop [0, 3, 5, 6, 7, 8]
         c7b1)))
      c7r1))))), none⟩
def k7 : List (List Nat) := [[0, 3, 5, 6, 7, 8], [0, 3, 5, 6, 7, 9]]
def o7 : List Nat := [1000023, 1000027, 1000029, 1000031, 1000032, 1000037, 1000041, 1000042, 1000044, 1000046, 1000047, 1000048, 1000049, 1000050, 1000051, 1000052, 1000053, 1000057, 1000058, 1000059, 1000060, 1000061, 1000062, 1000064, 1000065, 1000066, 1000067, 1000070, 1000071, 1000072, 1000073, 1000074, 1000075, 1000076, 1000077, 1000078, 1000079, 1000080, 1000081, 1000082, 1000083, 1000084, 1000085, 1000086, 1000087, 1000088, 3000000]
/-- tracebook/tracebooklaw35.awake -/
def c8 : AFn := ⟨0, 81, [.t 0],
 (.seq
  (.reg [⟨some 0, none, .mov (.c (.bool false))⟩])
  (.seq
   (.reg [⟨some 4, none, .call false 22 [(.c (.int .i64 5)), (.c (.int .i64 9))]⟩,
    ⟨some 5, none, .call false 22 [(.c (.int .i64 0)), (.c (.int .i64 20))]⟩,
    ⟨some 6, none, .call false 22 [(.c (.int .i64 5)), (.c (.int .i64 7))]⟩,
    ⟨some 7, none, .bslice false 2 [(.int .i64 0), (.int .i64 0)] 3 [(0, (.t 4)), (1, (.t 5)), (2, (.t 6))]⟩,
    ⟨some 1, none, .mov (.t 7)⟩])
   (.seq
    (.reg [⟨some 8, none, .mov (.t 1)⟩,
     ⟨some 9, none, .call false 9 [(.t 8)]⟩,
     ⟨some 2, none, .alloc [.nilS, .nilS]⟩,
     ⟨none, none, .store 2 (.t 2) (.t 9)⟩])
    (.seq
     (.reg [⟨some 10, none, .call false 9 [(.c .nilS)]⟩,
      ⟨some 3, none, .alloc [.nilS, .nilS]⟩,
      ⟨none, none, .store 2 (.t 3) (.t 10)⟩])
     (.seq
      (.reg [⟨some 11, none, .faddr 0 (.t 2)⟩,
       ⟨some 12, none, .load 1 false (.t 11)⟩,
       ⟨some 13, none, .bslice false 1 [(.int .i64 0)] 3 [(0, (.c (.int .i64 1))), (1, (.c (.int .i64 2))), (2, (.c (.int .i64 0)))]⟩,
       ⟨some 14, none, .call false 11 [(.t 12), (.t 13)]⟩,
       ⟨some 15, none, .mov (.t 14)⟩,
       ⟨some 16, some (15, true), .faddr 1 (.t 2)⟩,
       ⟨some 17, some (15, true), .load 1 false (.t 16)⟩,
       ⟨some 18, some (15, true), .bslice false 1 [(.int .i64 0)] 3 [(0, (.c (.int .i64 20))), (1, (.c (.int .i64 20))), (2, (.c (.int .i64 9)))]⟩,
       ⟨some 19, some (15, true), .call false 11 [(.t 17), (.t 18)]⟩,
       ⟨some 20, none, .pick (.t 15) (.t 19) (.c (.bool false))⟩,
       ⟨some 21, none, .mov (.t 20)⟩,
       ⟨some 22, some (21, true), .mov (.t 1)⟩,
       ⟨some 23, some (21, true), .load 2 true (.t 2)⟩,
       ⟨some 24, some (21, true), .call false 12 [(.t 22), (.t 23)]⟩,
       ⟨some 25, none, .pick (.t 21) (.t 24) (.c (.bool false))⟩,
       ⟨some 26, none, .mov (.t 25)⟩,
       ⟨some 27, some (26, true), .mov (.t 1)⟩,
       ⟨some 28, some (26, true), .slc (.slice 2) (.t 27) none (some (.c (.int .i64 2))) none⟩,
       ⟨some 29, some (26, true), .load 2 true (.t 2)⟩,
       ⟨some 30, some (26, true), .call false 12 [(.t 28), (.t 29)]⟩,
       ⟨some 31, some (26, true), .un .not (.t 30)⟩,
       ⟨some 32, none, .pick (.t 26) (.t 31) (.c (.bool false))⟩,
       ⟨some 33, none, .mov (.t 32)⟩,
       ⟨some 34, some (33, true), .mov (.t 1)⟩,
       ⟨some 35, some (33, true), .load 2 true (.t 2)⟩,
       ⟨some 36, some (33, true), .call false 22 [(.c (.int .i64 8)), (.c (.int .i64 10))]⟩,
       ⟨some 37, some (33, true), .call false 15 [(.t 34), (.t 35), (.t 36)]⟩,
       ⟨some 38, some (33, true), .bslice false 1 [(.int .i64 0)] 2 [(0, (.c (.int .i64 0))), (1, (.c (.int .i64 1)))]⟩,
       ⟨some 39, some (33, true), .call false 11 [(.t 37), (.t 38)]⟩,
       ⟨some 40, none, .pick (.t 33) (.t 39) (.c (.bool false))⟩,
       ⟨some 41, none, .mov (.t 40)⟩,
       ⟨some 42, some (41, true), .mov (.t 1)⟩,
       ⟨some 43, some (41, true), .load 2 true (.t 2)⟩,
       ⟨some 44, some (41, true), .call false 17 [(.t 42), (.t 43), (.c (.int .i64 6))]⟩,
       ⟨some 45, some (41, true), .bslice false 1 [(.int .i64 0)] 3 [(0, (.c (.int .i64 0))), (1, (.c (.int .i64 1))), (2, (.c (.int .i64 2)))]⟩,
       ⟨some 46, some (41, true), .call false 11 [(.t 44), (.t 45)]⟩,
       ⟨some 47, none, .pick (.t 41) (.t 46) (.c (.bool false))⟩,
       ⟨some 48, none, .mov (.t 47)⟩,
       ⟨some 49, some (48, true), .mov (.t 1)⟩,
       ⟨some 50, some (48, true), .load 2 true (.t 2)⟩,
       ⟨some 51, some (48, true), .call false 17 [(.t 49), (.t 50), (.c (.int .i64 20))]⟩,
       ⟨some 52, some (48, true), .len (.t 51)⟩,
       ⟨some 53, some (48, true), .bin .eql (.t 52) (.c (.int .i64 0))⟩,
       ⟨some 54, none, .pick (.t 48) (.t 53) (.c (.bool false))⟩,
       ⟨some 55, none, .mov (.t 54)⟩,
       ⟨some 56, some (55, true), .mov (.t 1)⟩,
       ⟨some 57, some (55, true), .load 2 true (.t 2)⟩,
       ⟨some 58, some (55, true), .call false 22 [(.c (.int .i64 8)), (.c (.int .i64 10))]⟩,
       ⟨some 59, some (55, true), .call false 19 [(.t 56), (.t 57), (.t 58)]⟩,
       ⟨some 60, some (55, true), .bin .eql (.t 59) (.c (.int .i64 3))⟩,
       ⟨some 61, none, .pick (.t 55) (.t 60) (.c (.bool false))⟩,
       ⟨some 62, none, .mov (.t 61)⟩,
       ⟨some 63, some (62, true), .mov (.t 1)⟩,
       ⟨some 64, some (62, true), .load 2 true (.t 2)⟩,
       ⟨some 65, some (62, true), .call false 22 [(.c (.int .i64 20)), (.c (.int .i64 30))]⟩,
       ⟨some 66, some (62, true), .call false 19 [(.t 63), (.t 64), (.t 65)]⟩,
       ⟨some 67, some (62, true), .bin .eql (.t 66) (.c (.int .i64 0))⟩,
       ⟨some 68, none, .pick (.t 62) (.t 67) (.c (.bool false))⟩,
       ⟨some 69, none, .mov (.t 68)⟩,
       ⟨some 70, some (69, true), .faddr 0 (.t 3)⟩,
       ⟨some 71, some (69, true), .load 1 false (.t 70)⟩,
       ⟨some 72, some (69, true), .len (.t 71)⟩,
       ⟨some 73, some (69, true), .bin .eql (.t 72) (.c (.int .i64 0))⟩,
       ⟨some 74, none, .pick (.t 69) (.t 73) (.c (.bool false))⟩,
       ⟨some 75, none, .mov (.t 74)⟩,
       ⟨some 76, some (75, true), .faddr 1 (.t 3)⟩,
       ⟨some 77, some (75, true), .load 1 false (.t 76)⟩,
       ⟨some 78, some (75, true), .len (.t 77)⟩,
       ⟨some 79, some (75, true), .bin .eql (.t 78) (.c (.int .i64 0))⟩,
       ⟨some 80, none, .pick (.t 75) (.t 79) (.c (.bool false))⟩,
       ⟨some 0, none, .mov (.t 80)⟩])
      .ret))))), none⟩
def k8 : List (List Nat) := []
def o8 : List Nat := [1000023, 1000027, 1000029, 1000031, 1000032, 1000037, 1000041, 1000042, 1000044, 1000046, 1000047, 1000048, 1000049, 1000050, 1000051, 1000052, 1000053, 1000057, 1000058, 1000059, 1000060, 1000061, 1000062, 1000064, 1000065, 1000066, 1000067, 1000070, 1000071, 1000072, 1000073, 1000074, 1000075, 1000076, 1000077, 1000078, 1000079, 1000080, 1000081, 1000082, 1000083, 1000084, 1000085, 1000086, 1000087, 1000088, 3000000]
def c9b0 : AC := (.seq
        (.reg [⟨some 15, none, .bin .lss (.t 14) (.t 13)⟩])
        (.seq
         (.cond (.t 15)
          .skip
          (.exit 0))
         (.seq
          (.block 1
           (.seq
            (.reg [⟨some 16, none, .mov (.t 14)⟩,
             ⟨some 4, none, .mov (.t 16)⟩])
            (.reg [⟨some 17, none, .faddr 0 (.t 3)⟩,
             ⟨some 18, none, .load 1 false (.t 17)⟩,
             ⟨some 19, none, .mov (.t 4)⟩,
             ⟨some 20, none, .mov (.t 4)⟩,
             ⟨some 21, none, .iaddr (.slice 1) (.t 18) (.t 19)⟩,
             ⟨none, none, .store 1 (.t 21) (.t 20)⟩])))
          (.reg [⟨some 22, none, .bin .add (.t 14) (.c (.int .i64 1))⟩,
           ⟨some 14, none, .mov (.t 22)⟩]))))
def c9r0 : AC := (.seq
     (.reg [⟨some 23, none, .faddr 0 (.t 3)⟩,
      ⟨some 24, none, .load 1 false (.t 23)⟩,
      ⟨some 25, none, .mkfn 24 [(.t 1)]⟩,
      ⟨some 26, none, .callS 23 [(.t 24), (.t 25)]⟩])
     (.seq
      (.reg [⟨some 27, none, .load 1 false (.t 1)⟩,
       ⟨some 28, none, .load 2 true (.t 3)⟩,
       ⟨some 29, none, .load 1 false (.t 1)⟩,
       ⟨some 30, none, .len (.t 29)⟩,
       ⟨some 31, none, .callS 27 [(.t 27), (.t 28), (.c (.int .i64 0)), (.t 30)]⟩])
      (.seq
       (.reg [⟨some 32, none, .load 2 true (.t 3)⟩,
        ⟨none, none, .store 2 (.t 2) (.t 32)⟩])
       .ret)))
/-- tracebook/itree.Of -/
def c9 : AFn := ⟨1, 33, [.c 2 2 true],
 (.seq
  (.reg [⟨some 1, none, .box (.t 0)⟩,
   ⟨some 2, none, .alloc [.nilS, .nilS]⟩])
  (.seq
   (.reg [⟨some 5, none, .load 1 false (.t 1)⟩,
    ⟨some 6, none, .len (.t 5)⟩,
    ⟨some 7, none, .make 1 8 [(.int .i64 0)] (.t 6) (.t 6)⟩,
    ⟨some 8, none, .load 1 false (.t 1)⟩,
    ⟨some 9, none, .len (.t 8)⟩,
    ⟨some 10, none, .make 1 8 [(.int .i64 0)] (.t 9) (.t 9)⟩,
    ⟨some 11, none, .build [.nilS, .nilS] [(0, 1, (.t 7)), (1, 1, (.t 10))]⟩,
    ⟨some 3, none, .alloc [.nilS, .nilS]⟩,
    ⟨none, none, .store 2 (.t 3) (.t 11)⟩])
   (.seq
    (.seq
     (.reg [⟨some 12, none, .load 1 false (.t 1)⟩,
      ⟨some 13, none, .len (.t 12)⟩,
      ⟨some 14, none, .mov (.c (.int .i64 0))⟩])
     (.block 0
      (.loop [1, 2, 3, 13, 14]
       c9b0)))
    c9r0))), none⟩
def k9 : List (List Nat) := [[1, 2, 3, 13, 14]]
def o9 : List Nat := [1000023, 1000027, 1000029, 1000031, 1000032, 1000037, 1000041, 1000042, 1000044, 1000046, 1000047, 1000048, 1000049, 1000050, 1000051, 1000052, 1000053, 1000057, 1000058, 1000059, 1000060, 1000061, 1000062, 1000064, 1000065, 1000066, 1000067, 1000070, 1000071, 1000072, 1000073, 1000074, 1000075, 1000076, 1000077, 1000078, 1000079, 1000080, 1000081, 1000082, 1000083, 1000084, 1000085, 1000086, 1000087, 1000088, 3000000, 7, 10]
/-- tracebook/tracebookref35.Of -/
def c10 : AFn := ⟨1, 16, [.c 2 2 true],
 (.seq
  (.reg [⟨some 2, none, .alloc [.nilS, .nilS]⟩])
  (.seq
   (.reg [⟨some 4, none, .mov (.t 0)⟩,
    ⟨some 5, none, .call true 28 [(.t 4)]⟩,
    ⟨some 6, none, .mov (.t 0)⟩,
    ⟨some 7, none, .len (.t 6)⟩,
    ⟨some 8, none, .make 1 8 [(.int .i64 0)] (.t 7) (.t 7)⟩,
    ⟨some 9, none, .build [.nilS, .nilS] [(0, 1, (.t 5)), (1, 1, (.t 8))]⟩,
    ⟨some 3, none, .alloc [.nilS, .nilS]⟩,
    ⟨none, none, .store 2 (.t 3) (.t 9)⟩])
   (.seq
    (.reg [⟨some 10, none, .mov (.t 0)⟩,
     ⟨some 11, none, .load 2 true (.t 3)⟩,
     ⟨some 12, none, .mov (.t 0)⟩,
     ⟨some 13, none, .len (.t 12)⟩,
     ⟨some 14, none, .callS 29 [(.t 10), (.t 11), (.c (.int .i64 0)), (.t 13)]⟩])
    (.seq
     (.reg [⟨some 15, none, .load 2 true (.t 3)⟩,
      ⟨none, none, .store 2 (.t 2) (.t 15)⟩])
     .ret)))), none⟩
def k10 : List (List Nat) := []
def o10 : List Nat := [1000023, 1000027, 1000029, 1000031, 1000032, 1000037, 1000041, 1000042, 1000044, 1000046, 1000047, 1000048, 1000049, 1000050, 1000051, 1000052, 1000053, 1000057, 1000058, 1000059, 1000060, 1000061, 1000062, 1000064, 1000065, 1000066, 1000067, 1000070, 1000071, 1000072, 1000073, 1000074, 1000075, 1000076, 1000077, 1000078, 1000079, 1000080, 1000081, 1000082, 1000083, 1000084, 1000085, 1000086, 1000087, 1000088, 3000000, 5, 8]
def c11b0 : AC := (.seq
        (.seq
         (.reg [⟨some 11, none, .mov (.t 5)⟩,
          ⟨some 12, none, .mov (.t 0)⟩,
          ⟨some 13, none, .len (.t 12)⟩,
          ⟨some 14, none, .bin .lss (.t 11) (.t 13)⟩])
         (.cond (.t 14)
          .skip
          (.exit 0)))
        (.seq
         (.block 1
          (.seq
           (.reg [⟨some 17, none, .mov (.t 0)⟩,
            ⟨some 18, none, .mov (.t 5)⟩,
            ⟨some 19, none, .iaddr (.slice 1) (.t 17) (.t 18)⟩,
            ⟨some 20, none, .load 1 false (.t 19)⟩,
            ⟨some 21, none, .mov (.t 1)⟩,
            ⟨some 22, none, .mov (.t 5)⟩,
            ⟨some 23, none, .iaddr (.slice 1) (.t 21) (.t 22)⟩,
            ⟨some 24, none, .load 1 false (.t 23)⟩,
            ⟨some 25, none, .bin .neq (.t 20) (.t 24)⟩])
           (.cond (.t 25)
            (.seq
             (.reg [⟨some 4, none, .mov (.c (.bool false))⟩])
             .ret)
            .skip)))
         (.reg [⟨some 15, none, .mov (.t 5)⟩,
          ⟨some 16, none, .bin .add (.t 15) (.c (.int .i64 1))⟩,
          ⟨some 5, none, .mov (.t 16)⟩])))
/-- tracebook/tracebookref35.Same -/
def c11 : AFn := ⟨2, 26, [.t 4],
 (.seq
  (.reg [⟨some 4, none, .mov (.c (.bool false))⟩])
  (.seq
   (.seq
    (.reg [⟨some 6, none, .mov (.t 0)⟩,
     ⟨some 7, none, .len (.t 6)⟩,
     ⟨some 8, none, .mov (.t 1)⟩,
     ⟨some 9, none, .len (.t 8)⟩,
     ⟨some 10, none, .bin .neq (.t 7) (.t 9)⟩])
    (.cond (.t 10)
     (.seq
      (.reg [⟨some 4, none, .mov (.c (.bool false))⟩])
      .ret)
     .skip))
   (.seq
    (.seq
     (.reg [⟨some 5, none, .mov (.c (.int .i64 0))⟩])
     (.block 0
      (.loop [0, 1, 5]
       c11b0)))
    (.seq
     (.reg [⟨some 4, none, .mov (.c (.bool true))⟩])
     .ret)))), none⟩
def k11 : List (List Nat) := [[0, 1, 5]]
def o11 : List Nat := [1000023, 1000027, 1000029, 1000031, 1000032, 1000037, 1000041, 1000042, 1000044, 1000046, 1000047, 1000048, 1000049, 1000050, 1000051, 1000052, 1000053, 1000057, 1000058, 1000059, 1000060, 1000061, 1000062, 1000064, 1000065, 1000066, 1000067, 1000070, 1000071, 1000072, 1000073, 1000074, 1000075, 1000076, 1000077, 1000078, 1000079, 1000080, 1000081, 1000082, 1000083, 1000084, 1000085, 1000086, 1000087, 1000088, 3000000]
/-- tracebook/itree.Check -/
def c12 : AFn := ⟨2, 20, [.t 4],
 (.seq
  (.reg [⟨some 3, none, .box (.t 1)⟩,
   ⟨some 4, none, .mov (.c (.bool false))⟩])
  (.seq
   (.reg [⟨some 6, none, .mov (.t 0)⟩,
    ⟨some 7, none, .call false 9 [(.t 6)]⟩,
    ⟨some 5, none, .alloc [.nilS, .nilS]⟩,
    ⟨none, none, .store 2 (.t 5) (.t 7)⟩])
   (.seq
    (.reg [⟨some 8, none, .faddr 0 (.t 3)⟩,
     ⟨some 9, none, .load 1 false (.t 8)⟩,
     ⟨some 10, none, .faddr 0 (.t 5)⟩,
     ⟨some 11, none, .load 1 false (.t 10)⟩,
     ⟨some 12, none, .call false 30 [(.t 9), (.t 11)]⟩,
     ⟨some 13, none, .mov (.t 12)⟩,
     ⟨some 14, some (13, true), .faddr 1 (.t 3)⟩,
     ⟨some 15, some (13, true), .load 1 false (.t 14)⟩,
     ⟨some 16, some (13, true), .faddr 1 (.t 5)⟩,
     ⟨some 17, some (13, true), .load 1 false (.t 16)⟩,
     ⟨some 18, some (13, true), .call false 30 [(.t 15), (.t 17)]⟩,
     ⟨some 19, none, .pick (.t 13) (.t 18) (.c (.bool false))⟩,
     ⟨some 4, none, .mov (.t 19)⟩])
    .ret))), none⟩
def k12 : List (List Nat) := []
def o12 : List Nat := [1000023, 1000027, 1000029, 1000031, 1000032, 1000037, 1000041, 1000042, 1000044, 1000046, 1000047, 1000048, 1000049, 1000050, 1000051, 1000052, 1000053, 1000057, 1000058, 1000059, 1000060, 1000061, 1000062, 1000064, 1000065, 1000066, 1000067, 1000070, 1000071, 1000072, 1000073, 1000074, 1000075, 1000076, 1000077, 1000078, 1000079, 1000080, 1000081, 1000082, 1000083, 1000084, 1000085, 1000086, 1000087, 1000088, 3000000]
/-- tracebook/tracebooklaw35.few -/
def c13 : AFn := ⟨2, 20, [.t 4],
 (.seq
  (.reg [⟨some 3, none, .box (.t 1)⟩,
   ⟨some 4, none, .mov (.c (.bool false))⟩])
  (.seq
   (.reg [⟨some 5, none, .mov (.t 0)⟩,
    ⟨some 6, none, .len (.t 5)⟩,
    ⟨some 7, none, .bin .leq (.t 6) (.c (.int .i64 200))⟩,
    ⟨some 8, none, .mov (.t 7)⟩,
    ⟨some 9, some (8, true), .faddr 0 (.t 3)⟩,
    ⟨some 10, some (8, true), .load 1 false (.t 9)⟩,
    ⟨some 11, some (8, true), .len (.t 10)⟩,
    ⟨some 12, some (8, true), .bin .leq (.t 11) (.c (.int .i64 300))⟩,
    ⟨some 13, none, .pick (.t 8) (.t 12) (.c (.bool false))⟩,
    ⟨some 14, none, .mov (.t 13)⟩,
    ⟨some 15, some (14, true), .faddr 1 (.t 3)⟩,
    ⟨some 16, some (14, true), .load 1 false (.t 15)⟩,
    ⟨some 17, some (14, true), .len (.t 16)⟩,
    ⟨some 18, some (14, true), .bin .leq (.t 17) (.c (.int .i64 300))⟩,
    ⟨some 19, none, .pick (.t 14) (.t 18) (.c (.bool false))⟩,
    ⟨some 4, none, .mov (.t 19)⟩])
   .ret)), none⟩
def k13 : List (List Nat) := []
def o13 : List Nat := [1000023, 1000027, 1000029, 1000031, 1000032, 1000037, 1000041, 1000042, 1000044, 1000046, 1000047, 1000048, 1000049, 1000050, 1000051, 1000052, 1000053, 1000057, 1000058, 1000059, 1000060, 1000061, 1000062, 1000064, 1000065, 1000066, 1000067, 1000070, 1000071, 1000072, 1000073, 1000074, 1000075, 1000076, 1000077, 1000078, 1000079, 1000080, 1000081, 1000082, 1000083, 1000084, 1000085, 1000086, 1000087, 1000088, 3000000]
/-- tracebook/tracebookref35.Check -/
def c14 : AFn := ⟨2, 20, [.t 4],
 (.seq
  (.reg [⟨some 3, none, .box (.t 1)⟩,
   ⟨some 4, none, .mov (.c (.bool false))⟩])
  (.seq
   (.reg [⟨some 6, none, .mov (.t 0)⟩,
    ⟨some 7, none, .call false 10 [(.t 6)]⟩,
    ⟨some 5, none, .alloc [.nilS, .nilS]⟩,
    ⟨none, none, .store 2 (.t 5) (.t 7)⟩])
   (.seq
    (.reg [⟨some 8, none, .faddr 0 (.t 3)⟩,
     ⟨some 9, none, .load 1 false (.t 8)⟩,
     ⟨some 10, none, .faddr 0 (.t 5)⟩,
     ⟨some 11, none, .load 1 false (.t 10)⟩,
     ⟨some 12, none, .call false 11 [(.t 9), (.t 11)]⟩,
     ⟨some 13, none, .mov (.t 12)⟩,
     ⟨some 14, some (13, true), .faddr 1 (.t 3)⟩,
     ⟨some 15, some (13, true), .load 1 false (.t 14)⟩,
     ⟨some 16, some (13, true), .faddr 1 (.t 5)⟩,
     ⟨some 17, some (13, true), .load 1 false (.t 16)⟩,
     ⟨some 18, some (13, true), .call false 11 [(.t 15), (.t 17)]⟩,
     ⟨some 19, none, .pick (.t 13) (.t 18) (.c (.bool false))⟩,
     ⟨some 4, none, .mov (.t 19)⟩])
    .ret))), none⟩
def k14 : List (List Nat) := []
def o14 : List Nat := [1000023, 1000027, 1000029, 1000031, 1000032, 1000037, 1000041, 1000042, 1000044, 1000046, 1000047, 1000048, 1000049, 1000050, 1000051, 1000052, 1000053, 1000057, 1000058, 1000059, 1000060, 1000061, 1000062, 1000064, 1000065, 1000066, 1000067, 1000070, 1000071, 1000072, 1000073, 1000074, 1000075, 1000076, 1000077, 1000078, 1000079, 1000080, 1000081, 1000082, 1000083, 1000084, 1000085, 1000086, 1000087, 1000088, 3000000]
/-- tracebook/itree.Overlap -/
def c15 : AFn := ⟨3, 18, [.t 6],
 (.seq
  (.reg [⟨some 4, none, .box (.t 1)⟩,
   ⟨some 5, none, .box (.t 2)⟩,
   ⟨some 6, none, .nilv 1⟩])
  (.seq
   (.reg [⟨some 8, none, .mov (.t 0)⟩,
    ⟨some 9, none, .load 2 true (.t 4)⟩,
    ⟨some 10, none, .load 2 true (.t 5)⟩,
    ⟨some 11, none, .callS 31 [(.t 8), (.t 9), (.t 10)]⟩,
    ⟨some 12, none, .nilck (.t 11)⟩,
    ⟨some 13, none, .faddr 6 (.t 12)⟩,
    ⟨some 14, none, .load 1 false (.t 13)⟩,
    ⟨some 7, none, .mov (.t 14)⟩])
   (.seq
    (.reg [⟨some 15, none, .mov (.t 7)⟩,
     ⟨some 16, none, .callS 32 [(.t 15)]⟩])
    (.seq
     (.reg [⟨some 17, none, .mov (.t 7)⟩,
      ⟨some 6, none, .mov (.t 17)⟩])
     .ret)))), none⟩
def k15 : List (List Nat) := []
def o15 : List Nat := [1000023, 1000027, 1000029, 1000031, 1000032, 1000037, 1000041, 1000042, 1000044, 1000046, 1000047, 1000048, 1000049, 1000050, 1000051, 1000052, 1000053, 1000057, 1000058, 1000059, 1000060, 1000061, 1000062, 1000064, 1000065, 1000066, 1000067, 1000070, 1000071, 1000072, 1000073, 1000074, 1000075, 1000076, 1000077, 1000078, 1000079, 1000080, 1000081, 1000082, 1000083, 1000084, 1000085, 1000086, 1000087, 1000088, 3000000]
def c16b0 : AC := (.seq
         (.seq
          (.reg [⟨some 14, none, .mov (.t 8)⟩,
           ⟨some 15, none, .mov (.t 0)⟩,
           ⟨some 16, none, .len (.t 15)⟩,
           ⟨some 17, none, .bin .lss (.t 14) (.t 16)⟩])
          (.cond (.t 17)
           .skip
           (.exit 0)))
         (.seq
          (.block 1
           (.seq
            (.reg [⟨some 20, none, .mov (.t 0)⟩,
             ⟨some 21, none, .mov (.t 8)⟩,
             ⟨some 22, none, .iaddr (.slice 2) (.t 20) (.t 21)⟩,
             ⟨some 23, none, .load 2 true (.t 22)⟩,
             ⟨some 24, none, .load 2 true (.t 5)⟩,
             ⟨some 25, none, .call false 33 [(.t 23), (.t 24)]⟩])
            (.cond (.t 25)
             (.reg [⟨some 26, none, .mov (.t 7)⟩,
              ⟨some 27, none, .mov (.t 8)⟩,
              ⟨some 28, none, .bslice false 1 [(.int .i64 0)] 1 [(0, (.t 27))]⟩,
              ⟨some 29, none, .append 1 8 (.t 26) (.t 28)⟩,
              ⟨some 7, none, .mov (.t 29)⟩])
             .skip)))
          (.reg [⟨some 18, none, .mov (.t 8)⟩,
           ⟨some 19, none, .bin .add (.t 18) (.c (.int .i64 1))⟩,
           ⟨some 8, none, .mov (.t 19)⟩])))
/-- tracebook/tracebookref35.Overlap -/
def c16 : AFn := ⟨3, 31, [.t 6],
 (.seq
  (.reg [⟨some 4, none, .box (.t 1)⟩,
   ⟨some 5, none, .box (.t 2)⟩,
   ⟨some 6, none, .nilv 1⟩])
  (.seq
   (.reg [⟨some 7, none, .nilv 1⟩])
   (.seq
    (.seq
     (.reg [⟨some 9, none, .mov (.t 0)⟩,
      ⟨some 10, none, .load 2 true (.t 4)⟩,
      ⟨some 11, none, .call false 14 [(.t 9), (.t 10)]⟩,
      ⟨some 12, none, .un .not (.t 11)⟩])
     (.cond (.t 12)
      (.seq
       (.reg [⟨some 13, none, .mov (.t 7)⟩,
        ⟨some 6, none, .mov (.t 13)⟩])
       .ret)
      .skip))
    (.seq
     (.seq
      (.reg [⟨some 8, none, .mov (.c (.int .i64 0))⟩])
      (.block 0
       (.loop [0, 5, 7, 8]
        c16b0)))
     (.seq
      (.reg [⟨some 30, none, .mov (.t 7)⟩,
       ⟨some 6, none, .mov (.t 30)⟩])
      .ret))))), none⟩
def k16 : List (List Nat) := [[0, 5, 7, 8]]
def o16 : List Nat := [1000023, 1000027, 1000029, 1000031, 1000032, 1000037, 1000041, 1000042, 1000044, 1000046, 1000047, 1000048, 1000049, 1000050, 1000051, 1000052, 1000053, 1000057, 1000058, 1000059, 1000060, 1000061, 1000062, 1000064, 1000065, 1000066, 1000067, 1000070, 1000071, 1000072, 1000073, 1000074, 1000075, 1000076, 1000077, 1000078, 1000079, 1000080, 1000081, 1000082, 1000083, 1000084, 1000085, 1000086, 1000087, 1000088, 3000000]
/-- tracebook/itree.Stab -/
def c17 : AFn := ⟨3, 14, [.t 6],
 (.seq
  (.reg [⟨some 4, none, .box (.t 1)⟩,
   ⟨some 6, none, .nilv 1⟩])
  (.seq
   (.reg [⟨some 7, none, .mov (.t 0)⟩,
    ⟨some 8, none, .load 2 true (.t 4)⟩,
    ⟨some 9, none, .mov (.t 2)⟩,
    ⟨some 10, none, .mov (.t 2)⟩,
    ⟨some 11, none, .bin .add (.t 10) (.c (.int .i64 1))⟩,
    ⟨some 12, none, .build [(.int .i64 0), (.int .i64 0)] [(0, 1, (.t 9)), (1, 1, (.t 11))]⟩,
    ⟨some 13, none, .call false 15 [(.t 7), (.t 8), (.t 12)]⟩,
    ⟨some 6, none, .mov (.t 13)⟩])
   .ret)), none⟩
def k17 : List (List Nat) := []
def o17 : List Nat := [1000023, 1000027, 1000029, 1000031, 1000032, 1000037, 1000041, 1000042, 1000044, 1000046, 1000047, 1000048, 1000049, 1000050, 1000051, 1000052, 1000053, 1000057, 1000058, 1000059, 1000060, 1000061, 1000062, 1000064, 1000065, 1000066, 1000067, 1000070, 1000071, 1000072, 1000073, 1000074, 1000075, 1000076, 1000077, 1000078, 1000079, 1000080, 1000081, 1000082, 1000083, 1000084, 1000085, 1000086, 1000087, 1000088, 3000000]
def c18b0 : AC := (.seq
         (.seq
          (.reg [⟨some 14, none, .mov (.t 8)⟩,
           ⟨some 15, none, .mov (.t 0)⟩,
           ⟨some 16, none, .len (.t 15)⟩,
           ⟨some 17, none, .bin .lss (.t 14) (.t 16)⟩])
          (.cond (.t 17)
           .skip
           (.exit 0)))
         (.seq
          (.block 1
           (.seq
            (.reg [⟨some 20, none, .mov (.t 0)⟩,
             ⟨some 21, none, .mov (.t 8)⟩,
             ⟨some 22, none, .iaddr (.slice 2) (.t 20) (.t 21)⟩,
             ⟨some 23, none, .load 2 true (.t 22)⟩,
             ⟨some 24, none, .call false 34 [(.t 23)]⟩,
             ⟨some 25, none, .mov (.t 24)⟩,
             ⟨some 26, some (25, true), .mov (.t 0)⟩,
             ⟨some 27, some (25, true), .mov (.t 8)⟩,
             ⟨some 28, some (25, true), .iaddr (.slice 2) (.t 26) (.t 27)⟩,
             ⟨some 29, some (25, true), .faddr 0 (.t 28)⟩,
             ⟨some 30, some (25, true), .load 1 false (.t 29)⟩,
             ⟨some 31, some (25, true), .mov (.t 2)⟩,
             ⟨some 32, some (25, true), .bin .leq (.t 30) (.t 31)⟩,
             ⟨some 33, none, .pick (.t 25) (.t 32) (.c (.bool false))⟩,
             ⟨some 34, none, .mov (.t 33)⟩,
             ⟨some 35, some (34, true), .mov (.t 2)⟩,
             ⟨some 36, some (34, true), .mov (.t 0)⟩,
             ⟨some 37, some (34, true), .mov (.t 8)⟩,
             ⟨some 38, some (34, true), .iaddr (.slice 2) (.t 36) (.t 37)⟩,
             ⟨some 39, some (34, true), .faddr 1 (.t 38)⟩,
             ⟨some 40, some (34, true), .load 1 false (.t 39)⟩,
             ⟨some 41, some (34, true), .bin .lss (.t 35) (.t 40)⟩,
             ⟨some 42, none, .pick (.t 34) (.t 41) (.c (.bool false))⟩])
            (.cond (.t 42)
             (.reg [⟨some 43, none, .mov (.t 7)⟩,
              ⟨some 44, none, .mov (.t 8)⟩,
              ⟨some 45, none, .bslice false 1 [(.int .i64 0)] 1 [(0, (.t 44))]⟩,
              ⟨some 46, none, .append 1 8 (.t 43) (.t 45)⟩,
              ⟨some 7, none, .mov (.t 46)⟩])
             .skip)))
          (.reg [⟨some 18, none, .mov (.t 8)⟩,
           ⟨some 19, none, .bin .add (.t 18) (.c (.int .i64 1))⟩,
           ⟨some 8, none, .mov (.t 19)⟩])))
/-- tracebook/tracebookref35.Stab -/
def c18 : AFn := ⟨3, 48, [.t 6],
 (.seq
  (.reg [⟨some 4, none, .box (.t 1)⟩,
   ⟨some 6, none, .nilv 1⟩])
  (.seq
   (.reg [⟨some 7, none, .nilv 1⟩])
   (.seq
    (.seq
     (.reg [⟨some 9, none, .mov (.t 0)⟩,
      ⟨some 10, none, .load 2 true (.t 4)⟩,
      ⟨some 11, none, .call false 14 [(.t 9), (.t 10)]⟩,
      ⟨some 12, none, .un .not (.t 11)⟩])
     (.cond (.t 12)
      (.seq
       (.reg [⟨some 13, none, .mov (.t 7)⟩,
        ⟨some 6, none, .mov (.t 13)⟩])
       .ret)
      .skip))
    (.seq
     (.seq
      (.reg [⟨some 8, none, .mov (.c (.int .i64 0))⟩])
      (.block 0
       (.loop [0, 2, 7, 8]
        c18b0)))
     (.seq
      (.reg [⟨some 47, none, .mov (.t 7)⟩,
       ⟨some 6, none, .mov (.t 47)⟩])
      .ret))))), none⟩
def k18 : List (List Nat) := [[0, 2, 7, 8]]
def o18 : List Nat := [1000023, 1000027, 1000029, 1000031, 1000032, 1000037, 1000041, 1000042, 1000044, 1000046, 1000047, 1000048, 1000049, 1000050, 1000051, 1000052, 1000053, 1000057, 1000058, 1000059, 1000060, 1000061, 1000062, 1000064, 1000065, 1000066, 1000067, 1000070, 1000071, 1000072, 1000073, 1000074, 1000075, 1000076, 1000077, 1000078, 1000079, 1000080, 1000081, 1000082, 1000083, 1000084, 1000085, 1000086, 1000087, 1000088, 3000000]
/-- tracebook/itree.Visits -/
def c19 : AFn := ⟨3, 14, [.t 6],
 (.seq
  (.reg [⟨some 4, none, .box (.t 1)⟩,
   ⟨some 5, none, .box (.t 2)⟩,
   ⟨some 6, none, .mov (.c (.int .i64 0))⟩])
  (.seq
   (.reg [⟨some 7, none, .mov (.t 0)⟩,
    ⟨some 8, none, .load 2 true (.t 4)⟩,
    ⟨some 9, none, .load 2 true (.t 5)⟩,
    ⟨some 10, none, .callS 31 [(.t 7), (.t 8), (.t 9)]⟩,
    ⟨some 11, none, .nilck (.t 10)⟩,
    ⟨some 12, none, .faddr 5 (.t 11)⟩,
    ⟨some 13, none, .load 1 false (.t 12)⟩,
    ⟨some 6, none, .mov (.t 13)⟩])
   .ret)), none⟩
def k19 : List (List Nat) := []
def o19 : List Nat := [1000023, 1000027, 1000029, 1000031, 1000032, 1000037, 1000041, 1000042, 1000044, 1000046, 1000047, 1000048, 1000049, 1000050, 1000051, 1000052, 1000053, 1000057, 1000058, 1000059, 1000060, 1000061, 1000062, 1000064, 1000065, 1000066, 1000067, 1000070, 1000071, 1000072, 1000073, 1000074, 1000075, 1000076, 1000077, 1000078, 1000079, 1000080, 1000081, 1000082, 1000083, 1000084, 1000085, 1000086, 1000087, 1000088, 3000000]
/-- tracebook/tracebookref35.Visits -/
def c20 : AFn := ⟨3, 17, [.t 6],
 (.seq
  (.reg [⟨some 4, none, .box (.t 1)⟩,
   ⟨some 5, none, .box (.t 2)⟩,
   ⟨some 6, none, .mov (.c (.int .i64 0))⟩])
  (.seq
   (.seq
    (.reg [⟨some 7, none, .mov (.t 0)⟩,
     ⟨some 8, none, .load 2 true (.t 4)⟩,
     ⟨some 9, none, .call false 14 [(.t 7), (.t 8)]⟩,
     ⟨some 10, none, .un .not (.t 9)⟩])
    (.cond (.t 10)
     (.seq
      (.reg [⟨some 6, none, .mov (.c (.int .i64 0))⟩])
      .ret)
     .skip))
   (.seq
    (.reg [⟨some 11, none, .mov (.t 0)⟩,
     ⟨some 12, none, .load 2 true (.t 4)⟩,
     ⟨some 13, none, .load 2 true (.t 5)⟩,
     ⟨some 14, none, .mov (.t 0)⟩,
     ⟨some 15, none, .len (.t 14)⟩,
     ⟨some 16, none, .call false 35 [(.t 11), (.t 12), (.t 13), (.c (.int .i64 0)), (.t 15)]⟩,
     ⟨some 6, none, .mov (.t 16)⟩])
    .ret))), none⟩
def k20 : List (List Nat) := []
def o20 : List Nat := [1000023, 1000027, 1000029, 1000031, 1000032, 1000037, 1000041, 1000042, 1000044, 1000046, 1000047, 1000048, 1000049, 1000050, 1000051, 1000052, 1000053, 1000057, 1000058, 1000059, 1000060, 1000061, 1000062, 1000064, 1000065, 1000066, 1000067, 1000070, 1000071, 1000072, 1000073, 1000074, 1000075, 1000076, 1000077, 1000078, 1000079, 1000080, 1000081, 1000082, 1000083, 1000084, 1000085, 1000086, 1000087, 1000088, 3000000]
def c21b0 : AC := (.seq
        (.seq
         (.reg [⟨some 11, none, .mov (.t 0)⟩,
          ⟨some 12, none, .len (.t 11)⟩,
          ⟨some 13, none, .bin .gtr (.t 12) (.c (.int .i64 0))⟩,
          ⟨some 14, none, .mov (.t 13)⟩,
          ⟨some 15, some (14, true), .mov (.t 1)⟩,
          ⟨some 16, some (14, true), .len (.t 15)⟩,
          ⟨some 17, some (14, true), .bin .gtr (.t 16) (.c (.int .i64 0))⟩,
          ⟨some 18, none, .pick (.t 14) (.t 17) (.c (.bool false))⟩])
         (.cond (.t 18)
          .skip
          (.exit 0)))
        (.block 1
         (.seq
          (.reg [⟨some 19, none, .mov (.t 0)⟩,
           ⟨some 20, none, .iaddr (.slice 2) (.t 19) (.c (.int .i64 0))⟩,
           ⟨some 21, none, .faddr 0 (.t 20)⟩,
           ⟨some 22, none, .load 1 false (.t 21)⟩,
           ⟨some 23, none, .mov (.t 1)⟩,
           ⟨some 24, none, .iaddr (.slice 2) (.t 23) (.c (.int .i64 0))⟩,
           ⟨some 25, none, .faddr 0 (.t 24)⟩,
           ⟨some 26, none, .load 1 false (.t 25)⟩,
           ⟨some 27, none, .max [(.t 22), (.t 26)]⟩,
           ⟨some 28, none, .mov (.t 0)⟩,
           ⟨some 29, none, .iaddr (.slice 2) (.t 28) (.c (.int .i64 0))⟩,
           ⟨some 30, none, .faddr 1 (.t 29)⟩,
           ⟨some 31, none, .load 1 false (.t 30)⟩,
           ⟨some 32, none, .mov (.t 1)⟩,
           ⟨some 33, none, .iaddr (.slice 2) (.t 32) (.c (.int .i64 0))⟩,
           ⟨some 34, none, .faddr 1 (.t 33)⟩,
           ⟨some 35, none, .load 1 false (.t 34)⟩,
           ⟨some 36, none, .min [(.t 31), (.t 35)]⟩,
           ⟨some 37, none, .build [(.int .i64 0), (.int .i64 0)] [(0, 1, (.t 27)), (1, 1, (.t 36))]⟩,
           ⟨some 6, none, .alloc [(.int .i64 0), (.int .i64 0)]⟩,
           ⟨none, none, .store 2 (.t 6) (.t 37)⟩])
          (.seq
           (.seq
            (.reg [⟨some 38, none, .faddr 0 (.t 6)⟩,
             ⟨some 39, none, .load 1 false (.t 38)⟩,
             ⟨some 40, none, .faddr 1 (.t 6)⟩,
             ⟨some 41, none, .load 1 false (.t 40)⟩,
             ⟨some 42, none, .bin .lss (.t 39) (.t 41)⟩])
            (.cond (.t 42)
             (.reg [⟨some 43, none, .mov (.t 5)⟩,
              ⟨some 44, none, .load 2 true (.t 6)⟩,
              ⟨some 45, none, .bslice false 2 [(.int .i64 0), (.int .i64 0)] 1 [(0, (.t 44))]⟩,
              ⟨some 46, none, .append 2 16 (.t 43) (.t 45)⟩,
              ⟨some 5, none, .mov (.t 46)⟩])
             .skip))
           (.seq
            (.reg [⟨some 47, none, .mov (.t 0)⟩,
             ⟨some 48, none, .iaddr (.slice 2) (.t 47) (.c (.int .i64 0))⟩,
             ⟨some 49, none, .faddr 1 (.t 48)⟩,
             ⟨some 50, none, .load 1 false (.t 49)⟩,
             ⟨some 51, none, .mov (.t 1)⟩,
             ⟨some 52, none, .iaddr (.slice 2) (.t 51) (.c (.int .i64 0))⟩,
             ⟨some 53, none, .faddr 1 (.t 52)⟩,
             ⟨some 54, none, .load 1 false (.t 53)⟩,
             ⟨some 55, none, .bin .lss (.t 50) (.t 54)⟩])
            (.cond (.t 55)
             (.reg [⟨some 56, none, .mov (.t 0)⟩,
              ⟨some 57, none, .slc (.slice 2) (.t 56) (some (.c (.int .i64 1))) none none⟩,
              ⟨some 0, none, .mov (.t 57)⟩])
             (.reg [⟨some 58, none, .mov (.t 1)⟩,
              ⟨some 59, none, .slc (.slice 2) (.t 58) (some (.c (.int .i64 1))) none none⟩,
              ⟨some 1, none, .mov (.t 59)⟩])))))))
/-- tracebook/spans.Meet -/
def c21 : AFn := ⟨2, 61, [.t 4],
 (.seq
  (.reg [⟨some 4, none, .nilv 2⟩])
  (.seq
   (.reg [⟨some 7, none, .mov (.t 0)⟩,
    ⟨some 8, none, .call false 36 [(.t 7)]⟩,
    ⟨some 9, none, .mov (.t 1)⟩,
    ⟨some 10, none, .call false 36 [(.t 9)]⟩,
    ⟨some 0, none, .mov (.t 8)⟩,
    ⟨some 1, none, .mov (.t 10)⟩])
   (.seq
    (.reg [⟨some 5, none, .nilv 2⟩])
    (.seq
     (.block 0
      (.loop [0, 1, 5]
       c21b0))
     (.seq
      (.reg [⟨some 60, none, .mov (.t 5)⟩,
       ⟨some 4, none, .mov (.t 60)⟩])
      .ret))))), none⟩
def k21 : List (List Nat) := [[0, 1, 5]]
def o21 : List Nat := [1000023, 1000027, 1000029, 1000031, 1000032, 1000037, 1000041, 1000042, 1000044, 1000046, 1000047, 1000048, 1000049, 1000050, 1000051, 1000052, 1000053, 1000057, 1000058, 1000059, 1000060, 1000061, 1000062, 1000064, 1000065, 1000066, 1000067, 1000070, 1000071, 1000072, 1000073, 1000074, 1000075, 1000076, 1000077, 1000078, 1000079, 1000080, 1000081, 1000082, 1000083, 1000084, 1000085, 1000086, 1000087, 1000088, 3000000]
/-- tracebook/tracebooklaw35.of -/
def c22 : AFn := ⟨2, 8, [.c 4 2 true],
 (.seq
  (.reg [⟨some 4, none, .alloc [(.int .i64 0), (.int .i64 0)]⟩])
  (.seq
   (.reg [⟨some 5, none, .mov (.t 0)⟩,
    ⟨some 6, none, .mov (.t 1)⟩,
    ⟨some 7, none, .build [(.int .i64 0), (.int .i64 0)] [(0, 1, (.t 5)), (1, 1, (.t 6))]⟩,
    ⟨none, none, .store 2 (.t 4) (.t 7)⟩])
   .ret)), none⟩
def k22 : List (List Nat) := []
def o22 : List Nat := [1000023, 1000027, 1000029, 1000031, 1000032, 1000037, 1000041, 1000042, 1000044, 1000046, 1000047, 1000048, 1000049, 1000050, 1000051, 1000052, 1000053, 1000057, 1000058, 1000059, 1000060, 1000061, 1000062, 1000064, 1000065, 1000066, 1000067, 1000070, 1000071, 1000072, 1000073, 1000074, 1000075, 1000076, 1000077, 1000078, 1000079, 1000080, 1000081, 1000082, 1000083, 1000084, 1000085, 1000086, 1000087, 1000088, 3000000]
/-- slices.SortFunc[[]int,int] -/
def c23 : AFn := ⟨1, 0, [], .skip, some (.s xSortI)⟩
/-- tracebook/itree.Of$1 -/
def c24 : AFn := ⟨3, 33, [.t 5],
 (.seq
  (.reg [⟨some 5, none, .mov (.c (.int .i64 0))⟩])
  (.seq
   (.reg [⟨some 6, none, .load 1 false (.t 2)⟩,
    ⟨some 7, none, .mov (.t 0)⟩,
    ⟨some 8, none, .iaddr (.slice 2) (.t 6) (.t 7)⟩,
    ⟨some 9, none, .faddr 0 (.t 8)⟩,
    ⟨some 10, none, .load 1 false (.t 9)⟩,
    ⟨some 11, none, .load 1 false (.t 2)⟩,
    ⟨some 12, none, .mov (.t 1)⟩,
    ⟨some 13, none, .iaddr (.slice 2) (.t 11) (.t 12)⟩,
    ⟨some 14, none, .faddr 0 (.t 13)⟩,
    ⟨some 15, none, .load 1 false (.t 14)⟩,
    ⟨some 16, none, .call false 26 [(.t 10), (.t 15)]⟩,
    ⟨some 17, none, .load 1 false (.t 2)⟩,
    ⟨some 18, none, .mov (.t 0)⟩,
    ⟨some 19, none, .iaddr (.slice 2) (.t 17) (.t 18)⟩,
    ⟨some 20, none, .faddr 1 (.t 19)⟩,
    ⟨some 21, none, .load 1 false (.t 20)⟩,
    ⟨some 22, none, .load 1 false (.t 2)⟩,
    ⟨some 23, none, .mov (.t 1)⟩,
    ⟨some 24, none, .iaddr (.slice 2) (.t 22) (.t 23)⟩,
    ⟨some 25, none, .faddr 1 (.t 24)⟩,
    ⟨some 26, none, .load 1 false (.t 25)⟩,
    ⟨some 27, none, .call false 26 [(.t 21), (.t 26)]⟩,
    ⟨some 28, none, .mov (.t 0)⟩,
    ⟨some 29, none, .mov (.t 1)⟩,
    ⟨some 30, none, .call false 26 [(.t 28), (.t 29)]⟩,
    ⟨some 31, none, .bslice false 1 [(.int .i64 0)] 3 [(0, (.t 16)), (1, (.t 27)), (2, (.t 30))]⟩,
    ⟨some 32, none, .call false 25 [(.t 31)]⟩,
    ⟨some 5, none, .mov (.t 32)⟩])
   .ret)), none⟩
def k24 : List (List Nat) := []
def o24 : List Nat := [1000023, 1000027, 1000029, 1000031, 1000032, 1000037, 1000041, 1000042, 1000044, 1000046, 1000047, 1000048, 1000049, 1000050, 1000051, 1000052, 1000053, 1000057, 1000058, 1000059, 1000060, 1000061, 1000062, 1000064, 1000065, 1000066, 1000067, 1000070, 1000071, 1000072, 1000073, 1000074, 1000075, 1000076, 1000077, 1000078, 1000079, 1000080, 1000081, 1000082, 1000083, 1000084, 1000085, 1000086, 1000087, 1000088, 3000000]
def c25b0 : AC := (.seq
        (.reg [⟨some 9, none, .bin .lss (.t 8) (.t 7)⟩])
        (.seq
         (.cond (.t 9)
          .skip
          (.exit 0))
         (.seq
          (.block 1
           (.seq
            (.reg [⟨some 10, none, .iaddr (.slice 1) (.t 6) (.t 8)⟩,
             ⟨some 11, none, .load 1 false (.t 10)⟩,
             ⟨some 5, none, .mov (.t 11)⟩])
            (.seq
             (.reg [⟨some 12, none, .mov (.t 5)⟩,
              ⟨some 13, none, .mov (.t 3)⟩,
              ⟨some 14, none, .bin .neq (.t 12) (.t 13)⟩])
             (.cond (.t 14)
              (.seq
               (.reg [⟨some 15, none, .mov (.t 5)⟩,
                ⟨some 2, none, .mov (.t 15)⟩])
               .ret)
              .skip))))
          (.reg [⟨some 16, none, .bin .add (.t 8) (.c (.int .i64 1))⟩,
           ⟨some 8, none, .mov (.t 16)⟩]))))
/-- cmp.Or[int] -/
def c25 : AFn := ⟨1, 18, [.t 2],
 (.seq
  (.reg [⟨some 2, none, .mov (.c (.int .i64 0))⟩])
  (.seq
   (.reg [⟨some 3, none, .mov (.c (.int .i64 0))⟩])
   (.seq
    (.seq
     (.reg [⟨some 6, none, .mov (.t 0)⟩,
      ⟨some 7, none, .len (.t 6)⟩,
      ⟨some 8, none, .mov (.c (.int .i64 0))⟩])
     (.block 0
      (.loop [3, 6, 7, 8]
       c25b0)))
    (.seq
     (.reg [⟨some 17, none, .mov (.t 3)⟩,
      ⟨some 2, none, .mov (.t 17)⟩])
     .ret)))), none⟩
def k25 : List (List Nat) := [[3, 6, 7, 8]]
def o25 : List Nat := [1000023, 1000027, 1000029, 1000031, 1000032, 1000037, 1000041, 1000042, 1000044, 1000046, 1000047, 1000048, 1000049, 1000050, 1000051, 1000052, 1000053, 1000057, 1000058, 1000059, 1000060, 1000061, 1000062, 1000064, 1000065, 1000066, 1000067, 1000070, 1000071, 1000072, 1000073, 1000074, 1000075, 1000076, 1000077, 1000078, 1000079, 1000080, 1000081, 1000082, 1000083, 1000084, 1000085, 1000086, 1000087, 1000088, 3000000]
/-- cmp.Compare[int] -/
def c26 : AFn := ⟨2, 20, [.t 4],
 (.seq
  (.reg [⟨some 4, none, .mov (.c (.int .i64 0))⟩])
  (.seq
   (.reg [⟨some 7, none, .mov (.t 0)⟩,
    ⟨some 8, none, .call false 39 [(.t 7)]⟩,
    ⟨some 5, none, .mov (.t 8)⟩])
   (.seq
    (.reg [⟨some 9, none, .mov (.t 1)⟩,
     ⟨some 10, none, .call false 39 [(.t 9)]⟩,
     ⟨some 6, none, .mov (.t 10)⟩])
    (.seq
     (.seq
      (.reg [⟨some 11, none, .mov (.t 5)⟩])
      (.cond (.t 11)
       (.seq
        (.seq
         (.reg [⟨some 12, none, .mov (.t 6)⟩])
         (.cond (.t 12)
          (.seq
           (.reg [⟨some 4, none, .mov (.c (.int .i64 0))⟩])
           .ret)
          .skip))
        (.seq
         (.reg [⟨some 4, none, .mov (.c (.int .i64 (-1)))⟩])
         .ret))
       .skip))
     (.seq
      (.seq
       (.reg [⟨some 13, none, .mov (.t 6)⟩])
       (.cond (.t 13)
        (.seq
         (.reg [⟨some 4, none, .mov (.c (.int .i64 1))⟩])
         .ret)
        .skip))
      (.seq
       (.seq
        (.reg [⟨some 14, none, .mov (.t 0)⟩,
         ⟨some 15, none, .mov (.t 1)⟩,
         ⟨some 16, none, .bin .lss (.t 14) (.t 15)⟩])
        (.cond (.t 16)
         (.seq
          (.reg [⟨some 4, none, .mov (.c (.int .i64 (-1)))⟩])
          .ret)
         .skip))
       (.seq
        (.seq
         (.reg [⟨some 17, none, .mov (.t 0)⟩,
          ⟨some 18, none, .mov (.t 1)⟩,
          ⟨some 19, none, .bin .gtr (.t 17) (.t 18)⟩])
         (.cond (.t 19)
          (.seq
           (.reg [⟨some 4, none, .mov (.c (.int .i64 1))⟩])
           .ret)
          .skip))
        (.seq
         (.reg [⟨some 4, none, .mov (.c (.int .i64 0))⟩])
         .ret)))))))), none⟩
def k26 : List (List Nat) := []
def o26 : List Nat := [1000023, 1000027, 1000029, 1000031, 1000032, 1000037, 1000041, 1000042, 1000044, 1000046, 1000047, 1000048, 1000049, 1000050, 1000051, 1000052, 1000053, 1000057, 1000058, 1000059, 1000060, 1000061, 1000062, 1000064, 1000065, 1000066, 1000067, 1000070, 1000071, 1000072, 1000073, 1000074, 1000075, 1000076, 1000077, 1000078, 1000079, 1000080, 1000081, 1000082, 1000083, 1000084, 1000085, 1000086, 1000087, 1000088, 3000000]
/-- tracebook/itree.most -/
def c27 : AFn := ⟨4, 84, [],
 (.seq
  (.reg [⟨some 5, none, .box (.t 1)⟩])
  (.seq
   (.seq
    (.reg [⟨some 9, none, .mov (.t 2)⟩,
     ⟨some 10, none, .mov (.t 3)⟩,
     ⟨some 11, none, .bin .geq (.t 9) (.t 10)⟩])
    (.cond (.t 11)
     .ret
     .skip))
   (.seq
    (.reg [⟨some 12, none, .mov (.t 2)⟩,
     ⟨some 13, none, .mov (.t 3)⟩,
     ⟨some 14, none, .bin .add (.t 12) (.t 13)⟩,
     ⟨some 15, none, .bin .quo (.t 14) (.c (.int .i64 2))⟩,
     ⟨some 8, none, .mov (.t 15)⟩])
    (.seq
     (.reg [⟨some 16, none, .faddr 1 (.t 5)⟩,
      ⟨some 17, none, .load 1 false (.t 16)⟩,
      ⟨some 18, none, .mov (.t 8)⟩,
      ⟨some 19, none, .mov (.t 0)⟩,
      ⟨some 20, none, .faddr 0 (.t 5)⟩,
      ⟨some 21, none, .load 1 false (.t 20)⟩,
      ⟨some 22, none, .mov (.t 8)⟩,
      ⟨some 23, none, .iaddr (.slice 1) (.t 21) (.t 22)⟩,
      ⟨some 24, none, .load 1 false (.t 23)⟩,
      ⟨some 25, none, .iaddr (.slice 2) (.t 19) (.t 24)⟩,
      ⟨some 26, none, .faddr 1 (.t 25)⟩,
      ⟨some 27, none, .load 1 false (.t 26)⟩,
      ⟨some 28, none, .iaddr (.slice 1) (.t 17) (.t 18)⟩,
      ⟨none, none, .store 1 (.t 28) (.t 27)⟩])
     (.seq
      (.seq
       (.reg [⟨some 29, none, .mov (.t 2)⟩,
        ⟨some 30, none, .mov (.t 8)⟩,
        ⟨some 31, none, .bin .lss (.t 29) (.t 30)⟩])
       (.cond (.t 31)
        (.seq
         (.reg [⟨some 32, none, .mov (.t 0)⟩,
          ⟨some 33, none, .load 2 true (.t 5)⟩,
          ⟨some 34, none, .mov (.t 2)⟩,
          ⟨some 35, none, .mov (.t 8)⟩,
          ⟨some 36, none, .callS 27 [(.t 32), (.t 33), (.t 34), (.t 35)]⟩])
         (.reg [⟨some 37, none, .faddr 1 (.t 5)⟩,
          ⟨some 38, none, .load 1 false (.t 37)⟩,
          ⟨some 39, none, .mov (.t 8)⟩,
          ⟨some 40, none, .faddr 1 (.t 5)⟩,
          ⟨some 41, none, .load 1 false (.t 40)⟩,
          ⟨some 42, none, .mov (.t 8)⟩,
          ⟨some 43, none, .iaddr (.slice 1) (.t 41) (.t 42)⟩,
          ⟨some 44, none, .load 1 false (.t 43)⟩,
          ⟨some 45, none, .faddr 1 (.t 5)⟩,
          ⟨some 46, none, .load 1 false (.t 45)⟩,
          ⟨some 47, none, .mov (.t 2)⟩,
          ⟨some 48, none, .mov (.t 8)⟩,
          ⟨some 49, none, .bin .add (.t 47) (.t 48)⟩,
          ⟨some 50, none, .bin .quo (.t 49) (.c (.int .i64 2))⟩,
          ⟨some 51, none, .iaddr (.slice 1) (.t 46) (.t 50)⟩,
          ⟨some 52, none, .load 1 false (.t 51)⟩,
          ⟨some 53, none, .max [(.t 44), (.t 52)]⟩,
          ⟨some 54, none, .iaddr (.slice 1) (.t 38) (.t 39)⟩,
          ⟨none, none, .store 1 (.t 54) (.t 53)⟩]))
        .skip))
      (.seq
       (.reg [⟨some 55, none, .mov (.t 8)⟩,
        ⟨some 56, none, .bin .add (.t 55) (.c (.int .i64 1))⟩,
        ⟨some 57, none, .mov (.t 3)⟩,
        ⟨some 58, none, .bin .lss (.t 56) (.t 57)⟩])
       (.cond (.t 58)
        (.seq
         (.reg [⟨some 59, none, .mov (.t 0)⟩,
          ⟨some 60, none, .load 2 true (.t 5)⟩,
          ⟨some 61, none, .mov (.t 8)⟩,
          ⟨some 62, none, .bin .add (.t 61) (.c (.int .i64 1))⟩,
          ⟨some 63, none, .mov (.t 3)⟩,
          ⟨some 64, none, .callS 27 [(.t 59), (.t 60), (.t 62), (.t 63)]⟩])
         (.reg [⟨some 65, none, .faddr 1 (.t 5)⟩,
          ⟨some 66, none, .load 1 false (.t 65)⟩,
          ⟨some 67, none, .mov (.t 8)⟩,
          ⟨some 68, none, .faddr 1 (.t 5)⟩,
          ⟨some 69, none, .load 1 false (.t 68)⟩,
          ⟨some 70, none, .mov (.t 8)⟩,
          ⟨some 71, none, .iaddr (.slice 1) (.t 69) (.t 70)⟩,
          ⟨some 72, none, .load 1 false (.t 71)⟩,
          ⟨some 73, none, .faddr 1 (.t 5)⟩,
          ⟨some 74, none, .load 1 false (.t 73)⟩,
          ⟨some 75, none, .mov (.t 8)⟩,
          ⟨some 76, none, .bin .add (.t 75) (.c (.int .i64 1))⟩,
          ⟨some 77, none, .mov (.t 3)⟩,
          ⟨some 78, none, .bin .add (.t 76) (.t 77)⟩,
          ⟨some 79, none, .bin .quo (.t 78) (.c (.int .i64 2))⟩,
          ⟨some 80, none, .iaddr (.slice 1) (.t 74) (.t 79)⟩,
          ⟨some 81, none, .load 1 false (.t 80)⟩,
          ⟨some 82, none, .max [(.t 72), (.t 81)]⟩,
          ⟨some 83, none, .iaddr (.slice 1) (.t 66) (.t 67)⟩,
          ⟨none, none, .store 1 (.t 83) (.t 82)⟩]))
        .skip))))))), none⟩
def k27 : List (List Nat) := []
def o27 : List Nat := [1000023, 1000027, 1000029, 1000031, 1000032, 1000037, 1000041, 1000042, 1000044, 1000046, 1000047, 1000048, 1000049, 1000050, 1000051, 1000052, 1000053, 1000057, 1000058, 1000059, 1000060, 1000061, 1000062, 1000064, 1000065, 1000066, 1000067, 1000070, 1000071, 1000072, 1000073, 1000074, 1000075, 1000076, 1000077, 1000078, 1000079, 1000080, 1000081, 1000082, 1000083, 1000084, 1000085, 1000086, 1000087, 1000088, 3000000]
def c28b0 : AC := (.seq
               (.seq
                (.reg [⟨some 15, none, .mov (.t 5)⟩,
                 ⟨some 16, none, .bin .gtr (.t 15) (.c (.int .i64 0))⟩,
                 ⟨some 17, none, .mov (.t 16)⟩,
                 ⟨some 18, some (17, true), .mov (.t 0)⟩,
                 ⟨some 19, some (17, true), .mov (.t 4)⟩,
                 ⟨some 20, some (17, true), .mov (.t 3)⟩,
                 ⟨some 21, some (17, true), .mov (.t 5)⟩,
                 ⟨some 22, some (17, true), .bin .sub (.t 21) (.c (.int .i64 1))⟩,
                 ⟨some 23, some (17, true), .iaddr (.slice 1) (.t 20) (.t 22)⟩,
                 ⟨some 24, some (17, true), .load 1 false (.t 23)⟩,
                 ⟨some 25, some (17, true), .call false 40 [(.t 18), (.t 19), (.t 24)]⟩,
                 ⟨some 26, none, .pick (.t 17) (.t 25) (.c (.bool false))⟩])
                (.cond (.t 26)
                 .skip
                 (.exit 2)))
               (.block 3
                (.reg [⟨some 27, none, .mov (.t 5)⟩,
                 ⟨some 28, none, .bin .sub (.t 27) (.c (.int .i64 1))⟩,
                 ⟨some 5, none, .mov (.t 28)⟩])))
def c28b1 : AC := (.seq
        (.seq
         (.reg [⟨some 7, none, .mov (.t 4)⟩,
          ⟨some 8, none, .mov (.t 0)⟩,
          ⟨some 9, none, .len (.t 8)⟩,
          ⟨some 10, none, .bin .lss (.t 7) (.t 9)⟩])
         (.cond (.t 10)
          .skip
          (.exit 0)))
        (.seq
         (.block 1
          (.seq
           (.reg [⟨some 13, none, .mov (.t 3)⟩,
            ⟨some 14, none, .len (.t 13)⟩,
            ⟨some 5, none, .mov (.t 14)⟩])
           (.seq
            (.block 2
             (.loop [0, 3, 4, 5]
              c28b0))
            (.seq
             (.reg [⟨some 29, none, .bslice true 1 [(.int .i64 0)] 0 []⟩,
              ⟨some 30, none, .mov (.t 3)⟩,
              ⟨some 31, none, .mov (.t 5)⟩,
              ⟨some 32, none, .slc (.slice 1) (.t 30) none (some (.t 31)) none⟩,
              ⟨some 33, none, .append 1 8 (.t 29) (.t 32)⟩,
              ⟨some 6, none, .mov (.t 33)⟩])
             (.seq
              (.reg [⟨some 34, none, .mov (.t 6)⟩,
               ⟨some 35, none, .mov (.t 4)⟩,
               ⟨some 36, none, .bslice false 1 [(.int .i64 0)] 1 [(0, (.t 35))]⟩,
               ⟨some 37, none, .append 1 8 (.t 34) (.t 36)⟩,
               ⟨some 6, none, .mov (.t 37)⟩])
              (.reg [⟨some 38, none, .mov (.t 6)⟩,
               ⟨some 39, none, .mov (.t 3)⟩,
               ⟨some 40, none, .mov (.t 5)⟩,
               ⟨some 41, none, .slc (.slice 1) (.t 39) (some (.t 40)) none none⟩,
               ⟨some 42, none, .append 1 8 (.t 38) (.t 41)⟩,
               ⟨some 3, none, .mov (.t 42)⟩]))))))
         (.reg [⟨some 11, none, .mov (.t 4)⟩,
          ⟨some 12, none, .bin .add (.t 11) (.c (.int .i64 1))⟩,
          ⟨some 4, none, .mov (.t 12)⟩])))
/-- tracebook/tracebookref35.order -/
def c28 : AFn := ⟨1, 44, [.t 2],
 (.seq
  (.reg [⟨some 2, none, .nilv 1⟩])
  (.seq
   (.reg [⟨some 3, none, .nilv 1⟩])
   (.seq
    (.seq
     (.reg [⟨some 4, none, .mov (.c (.int .i64 0))⟩])
     (.block 0
      (.loop [0, 3, 4]
       c28b1)))
    (.seq
     (.reg [⟨some 43, none, .mov (.t 3)⟩,
      ⟨some 2, none, .mov (.t 43)⟩])
     .ret)))), none⟩
def k28 : List (List Nat) := [[0, 3, 4], [0, 3, 4, 5]]
def o28 : List Nat := [1000023, 1000027, 1000029, 1000031, 1000032, 1000037, 1000041, 1000042, 1000044, 1000046, 1000047, 1000048, 1000049, 1000050, 1000051, 1000052, 1000053, 1000057, 1000058, 1000059, 1000060, 1000061, 1000062, 1000064, 1000065, 1000066, 1000067, 1000070, 1000071, 1000072, 1000073, 1000074, 1000075, 1000076, 1000077, 1000078, 1000079, 1000080, 1000081, 1000082, 1000083, 1000084, 1000085, 1000086, 1000087, 1000088, 3000000, 29]
def c29b0 : AC := (.seq
          (.seq
           (.reg [⟨some 28, none, .mov (.t 10)⟩,
            ⟨some 29, none, .mov (.t 3)⟩,
            ⟨some 30, none, .bin .lss (.t 28) (.t 29)⟩])
           (.cond (.t 30)
            .skip
            (.exit 0)))
          (.seq
           (.block 1
            (.reg [⟨some 33, none, .mov (.t 9)⟩,
             ⟨some 34, none, .mov (.t 0)⟩,
             ⟨some 35, none, .faddr 0 (.t 5)⟩,
             ⟨some 36, none, .load 1 false (.t 35)⟩,
             ⟨some 37, none, .mov (.t 10)⟩,
             ⟨some 38, none, .iaddr (.slice 1) (.t 36) (.t 37)⟩,
             ⟨some 39, none, .load 1 false (.t 38)⟩,
             ⟨some 40, none, .iaddr (.slice 2) (.t 34) (.t 39)⟩,
             ⟨some 41, none, .faddr 1 (.t 40)⟩,
             ⟨some 42, none, .load 1 false (.t 41)⟩,
             ⟨some 43, none, .max [(.t 33), (.t 42)]⟩,
             ⟨some 9, none, .mov (.t 43)⟩]))
           (.reg [⟨some 31, none, .mov (.t 10)⟩,
            ⟨some 32, none, .bin .add (.t 31) (.c (.int .i64 1))⟩,
            ⟨some 10, none, .mov (.t 32)⟩])))
def c29r0 : AC := (.seq
       (.reg [⟨some 44, none, .faddr 1 (.t 5)⟩,
        ⟨some 45, none, .load 1 false (.t 44)⟩,
        ⟨some 46, none, .mov (.t 8)⟩,
        ⟨some 47, none, .mov (.t 9)⟩,
        ⟨some 48, none, .iaddr (.slice 1) (.t 45) (.t 46)⟩,
        ⟨none, none, .store 1 (.t 48) (.t 47)⟩])
       (.seq
        (.reg [⟨some 49, none, .mov (.t 0)⟩,
         ⟨some 50, none, .load 2 true (.t 5)⟩,
         ⟨some 51, none, .mov (.t 2)⟩,
         ⟨some 52, none, .mov (.t 8)⟩,
         ⟨some 53, none, .callS 29 [(.t 49), (.t 50), (.t 51), (.t 52)]⟩])
        (.reg [⟨some 54, none, .mov (.t 0)⟩,
         ⟨some 55, none, .load 2 true (.t 5)⟩,
         ⟨some 56, none, .mov (.t 8)⟩,
         ⟨some 57, none, .bin .add (.t 56) (.c (.int .i64 1))⟩,
         ⟨some 58, none, .mov (.t 3)⟩,
         ⟨some 59, none, .callS 29 [(.t 54), (.t 55), (.t 57), (.t 58)]⟩])))
/-- tracebook/tracebookref35.greatest -/
def c29 : AFn := ⟨4, 60, [],
 (.seq
  (.reg [⟨some 5, none, .box (.t 1)⟩])
  (.seq
   (.seq
    (.reg [⟨some 11, none, .mov (.t 2)⟩,
     ⟨some 12, none, .mov (.t 3)⟩,
     ⟨some 13, none, .bin .geq (.t 11) (.t 12)⟩])
    (.cond (.t 13)
     .ret
     .skip))
   (.seq
    (.reg [⟨some 14, none, .mov (.t 2)⟩,
     ⟨some 15, none, .mov (.t 3)⟩,
     ⟨some 16, none, .bin .add (.t 14) (.t 15)⟩,
     ⟨some 17, none, .bin .quo (.t 16) (.c (.int .i64 2))⟩,
     ⟨some 8, none, .mov (.t 17)⟩])
    (.seq
     (.reg [⟨some 18, none, .mov (.t 0)⟩,
      ⟨some 19, none, .faddr 0 (.t 5)⟩,
      ⟨some 20, none, .load 1 false (.t 19)⟩,
      ⟨some 21, none, .mov (.t 2)⟩,
      ⟨some 22, none, .iaddr (.slice 1) (.t 20) (.t 21)⟩,
      ⟨some 23, none, .load 1 false (.t 22)⟩,
      ⟨some 24, none, .iaddr (.slice 2) (.t 18) (.t 23)⟩,
      ⟨some 25, none, .faddr 1 (.t 24)⟩,
      ⟨some 26, none, .load 1 false (.t 25)⟩,
      ⟨some 9, none, .mov (.t 26)⟩])
     (.seq
      (.seq
       (.reg [⟨some 27, none, .mov (.t 2)⟩,
        ⟨some 10, none, .mov (.t 27)⟩])
       (.block 0
        (.loop [0, 2, 3, 5, 8, 9, 10]
         c29b0)))
      c29r0))))), none⟩
def k29 : List (List Nat) := [[0, 2, 3, 5, 8, 9, 10]]
def o29 : List Nat := [1000023, 1000027, 1000029, 1000031, 1000032, 1000037, 1000041, 1000042, 1000044, 1000046, 1000047, 1000048, 1000049, 1000050, 1000051, 1000052, 1000053, 1000057, 1000058, 1000059, 1000060, 1000061, 1000062, 1000064, 1000065, 1000066, 1000067, 1000070, 1000071, 1000072, 1000073, 1000074, 1000075, 1000076, 1000077, 1000078, 1000079, 1000080, 1000081, 1000082, 1000083, 1000084, 1000085, 1000086, 1000087, 1000088, 3000000]
def c30b0 : AC := (.seq
        (.reg [⟨some 14, none, .bin .lss (.t 13) (.t 12)⟩])
        (.seq
         (.cond (.t 14)
          .skip
          (.exit 0))
         (.seq
          (.block 1
           (.seq
            (.reg [⟨some 15, none, .mov (.t 13)⟩,
             ⟨some 5, none, .mov (.t 15)⟩])
            (.seq
             (.reg [⟨some 16, none, .mov (.t 0)⟩,
              ⟨some 17, none, .mov (.t 5)⟩,
              ⟨some 18, none, .iaddr (.slice 1) (.t 16) (.t 17)⟩,
              ⟨some 19, none, .load 1 false (.t 18)⟩,
              ⟨some 20, none, .mov (.t 1)⟩,
              ⟨some 21, none, .mov (.t 5)⟩,
              ⟨some 22, none, .iaddr (.slice 1) (.t 20) (.t 21)⟩,
              ⟨some 23, none, .load 1 false (.t 22)⟩,
              ⟨some 24, none, .bin .neq (.t 19) (.t 23)⟩])
             (.cond (.t 24)
              (.seq
               (.reg [⟨some 4, none, .mov (.c (.bool false))⟩])
               .ret)
              .skip))))
          (.reg [⟨some 25, none, .bin .add (.t 13) (.c (.int .i64 1))⟩,
           ⟨some 13, none, .mov (.t 25)⟩]))))
/-- slices.Equal[[]int,int] -/
def c30 : AFn := ⟨2, 26, [.t 4],
 (.seq
  (.reg [⟨some 4, none, .mov (.c (.bool false))⟩])
  (.seq
   (.seq
    (.reg [⟨some 6, none, .mov (.t 0)⟩,
     ⟨some 7, none, .len (.t 6)⟩,
     ⟨some 8, none, .mov (.t 1)⟩,
     ⟨some 9, none, .len (.t 8)⟩,
     ⟨some 10, none, .bin .neq (.t 7) (.t 9)⟩])
    (.cond (.t 10)
     (.seq
      (.reg [⟨some 4, none, .mov (.c (.bool false))⟩])
      .ret)
     .skip))
   (.seq
    (.seq
     (.reg [⟨some 11, none, .mov (.t 0)⟩,
      ⟨some 12, none, .len (.t 11)⟩,
      ⟨some 13, none, .mov (.c (.int .i64 0))⟩])
     (.block 0
      (.loop [0, 1, 12, 13]
       c30b0)))
    (.seq
     (.reg [⟨some 4, none, .mov (.c (.bool true))⟩])
     .ret)))), none⟩
def k30 : List (List Nat) := [[0, 1, 12, 13]]
def o30 : List Nat := [1000023, 1000027, 1000029, 1000031, 1000032, 1000037, 1000041, 1000042, 1000044, 1000046, 1000047, 1000048, 1000049, 1000050, 1000051, 1000052, 1000053, 1000057, 1000058, 1000059, 1000060, 1000061, 1000062, 1000064, 1000065, 1000066, 1000067, 1000070, 1000071, 1000072, 1000073, 1000074, 1000075, 1000076, 1000077, 1000078, 1000079, 1000080, 1000081, 1000082, 1000083, 1000084, 1000085, 1000086, 1000087, 1000088, 3000000]
/-- tracebook/itree.examined -/
def c31 : AFn := ⟨3, 21, [.t 6],
 (.seq
  (.reg [⟨some 4, none, .box (.t 1)⟩,
   ⟨some 5, none, .box (.t 2)⟩,
   ⟨some 6, none, .mov (.c (.v (.pointer none)))⟩])
  (.seq
   (.reg [⟨some 8, none, .mov (.t 0)⟩,
    ⟨some 9, none, .load 2 true (.t 4)⟩,
    ⟨some 10, none, .load 2 true (.t 5)⟩,
    ⟨some 11, none, .build [.nilS, .nilS, .nilS, (.int .i64 0), (.int .i64 0), (.int .i64 0), .nilS] [(0, 1, (.t 8)), (1, 2, (.t 9)), (3, 2, (.t 10))]⟩,
    ⟨some 12, none, .box (.t 11)⟩,
    ⟨some 7, none, .mov (.t 12)⟩])
   (.seq
    (.seq
     (.reg [⟨some 13, none, .mov (.t 0)⟩,
      ⟨some 14, none, .load 2 true (.t 4)⟩,
      ⟨some 15, none, .call false 12 [(.t 13), (.t 14)]⟩])
     (.cond (.t 15)
      (.reg [⟨some 16, none, .mov (.t 7)⟩,
       ⟨some 17, none, .mov (.t 0)⟩,
       ⟨some 18, none, .len (.t 17)⟩,
       ⟨some 19, none, .callS 41 [(.t 16), (.c (.int .i64 0)), (.t 18)]⟩])
      .skip))
    (.seq
     (.reg [⟨some 20, none, .mov (.t 7)⟩,
      ⟨some 6, none, .mov (.t 20)⟩])
     .ret)))), none⟩
def k31 : List (List Nat) := []
def o31 : List Nat := [1000023, 1000027, 1000029, 1000031, 1000032, 1000037, 1000041, 1000042, 1000044, 1000046, 1000047, 1000048, 1000049, 1000050, 1000051, 1000052, 1000053, 1000057, 1000058, 1000059, 1000060, 1000061, 1000062, 1000064, 1000065, 1000066, 1000067, 1000070, 1000071, 1000072, 1000073, 1000074, 1000075, 1000076, 1000077, 1000078, 1000079, 1000080, 1000081, 1000082, 1000083, 1000084, 1000085, 1000086, 1000087, 1000088, 3000000]
/-- slices.Sort[[]int,int] -/
def c32 : AFn := ⟨1, 0, [], .skip, some (.s xSort)⟩
/-- tracebook/tracebookref35.Common -/
def c33 : AFn := ⟨2, 25, [.t 4],
 (.seq
  (.reg [⟨some 2, none, .box (.t 0)⟩,
   ⟨some 3, none, .box (.t 1)⟩,
   ⟨some 4, none, .mov (.c (.bool false))⟩])
  (.seq
   (.reg [⟨some 5, none, .load 2 true (.t 2)⟩,
    ⟨some 6, none, .call false 34 [(.t 5)]⟩,
    ⟨some 7, none, .mov (.t 6)⟩,
    ⟨some 8, some (7, true), .load 2 true (.t 3)⟩,
    ⟨some 9, some (7, true), .call false 34 [(.t 8)]⟩,
    ⟨some 10, none, .pick (.t 7) (.t 9) (.c (.bool false))⟩,
    ⟨some 11, none, .mov (.t 10)⟩,
    ⟨some 12, some (11, true), .faddr 0 (.t 2)⟩,
    ⟨some 13, some (11, true), .load 1 false (.t 12)⟩,
    ⟨some 14, some (11, true), .faddr 1 (.t 3)⟩,
    ⟨some 15, some (11, true), .load 1 false (.t 14)⟩,
    ⟨some 16, some (11, true), .bin .lss (.t 13) (.t 15)⟩,
    ⟨some 17, none, .pick (.t 11) (.t 16) (.c (.bool false))⟩,
    ⟨some 18, none, .mov (.t 17)⟩,
    ⟨some 19, some (18, true), .faddr 0 (.t 3)⟩,
    ⟨some 20, some (18, true), .load 1 false (.t 19)⟩,
    ⟨some 21, some (18, true), .faddr 1 (.t 2)⟩,
    ⟨some 22, some (18, true), .load 1 false (.t 21)⟩,
    ⟨some 23, some (18, true), .bin .lss (.t 20) (.t 22)⟩,
    ⟨some 24, none, .pick (.t 18) (.t 23) (.c (.bool false))⟩,
    ⟨some 4, none, .mov (.t 24)⟩])
   .ret)), none⟩
def k33 : List (List Nat) := []
def o33 : List Nat := [1000023, 1000027, 1000029, 1000031, 1000032, 1000037, 1000041, 1000042, 1000044, 1000046, 1000047, 1000048, 1000049, 1000050, 1000051, 1000052, 1000053, 1000057, 1000058, 1000059, 1000060, 1000061, 1000062, 1000064, 1000065, 1000066, 1000067, 1000070, 1000071, 1000072, 1000073, 1000074, 1000075, 1000076, 1000077, 1000078, 1000079, 1000080, 1000081, 1000082, 1000083, 1000084, 1000085, 1000086, 1000087, 1000088, 3000000]
/-- tracebook/tracebookref04.Valid -/
def c34 : AFn := ⟨1, 18, [.t 2],
 (.seq
  (.reg [⟨some 1, none, .box (.t 0)⟩,
   ⟨some 2, none, .mov (.c (.bool false))⟩])
  (.seq
   (.reg [⟨some 3, none, .faddr 0 (.t 1)⟩,
    ⟨some 4, none, .load 1 false (.t 3)⟩,
    ⟨some 5, none, .bin .geq (.t 4) (.c (.int .i64 0))⟩,
    ⟨some 6, none, .mov (.t 5)⟩,
    ⟨some 7, some (6, true), .faddr 0 (.t 1)⟩,
    ⟨some 8, some (6, true), .load 1 false (.t 7)⟩,
    ⟨some 9, some (6, true), .faddr 1 (.t 1)⟩,
    ⟨some 10, some (6, true), .load 1 false (.t 9)⟩,
    ⟨some 11, some (6, true), .bin .lss (.t 8) (.t 10)⟩,
    ⟨some 12, none, .pick (.t 6) (.t 11) (.c (.bool false))⟩,
    ⟨some 13, none, .mov (.t 12)⟩,
    ⟨some 14, some (13, true), .faddr 1 (.t 1)⟩,
    ⟨some 15, some (13, true), .load 1 false (.t 14)⟩,
    ⟨some 16, some (13, true), .bin .leq (.t 15) (.c (.int .i64 1000000000000))⟩,
    ⟨some 17, none, .pick (.t 13) (.t 16) (.c (.bool false))⟩,
    ⟨some 2, none, .mov (.t 17)⟩])
   .ret)), none⟩
def k34 : List (List Nat) := []
def o34 : List Nat := [1000023, 1000027, 1000029, 1000031, 1000032, 1000037, 1000041, 1000042, 1000044, 1000046, 1000047, 1000048, 1000049, 1000050, 1000051, 1000052, 1000053, 1000057, 1000058, 1000059, 1000060, 1000061, 1000062, 1000064, 1000065, 1000066, 1000067, 1000070, 1000071, 1000072, 1000073, 1000074, 1000075, 1000076, 1000077, 1000078, 1000079, 1000080, 1000081, 1000082, 1000083, 1000084, 1000085, 1000086, 1000087, 1000088, 3000000]
/-- tracebook/tracebookref35.visits -/
def c35 : AFn := ⟨5, 59, [.t 10],
 (.seq
  (.reg [⟨some 6, none, .box (.t 1)⟩,
   ⟨some 7, none, .box (.t 2)⟩,
   ⟨some 10, none, .mov (.c (.int .i64 0))⟩])
  (.seq
   (.reg [⟨some 13, none, .mov (.t 3)⟩,
    ⟨some 14, none, .mov (.t 4)⟩,
    ⟨some 15, none, .bin .add (.t 13) (.t 14)⟩,
    ⟨some 16, none, .bin .quo (.t 15) (.c (.int .i64 2))⟩,
    ⟨some 11, none, .mov (.t 16)⟩])
   (.seq
    (.seq
     (.reg [⟨some 17, none, .mov (.t 3)⟩,
      ⟨some 18, none, .mov (.t 4)⟩,
      ⟨some 19, none, .bin .geq (.t 17) (.t 18)⟩,
      ⟨some 20, none, .mov (.t 19)⟩,
      ⟨some 21, some (20, false), .faddr 1 (.t 6)⟩,
      ⟨some 22, some (20, false), .load 1 false (.t 21)⟩,
      ⟨some 23, some (20, false), .mov (.t 11)⟩,
      ⟨some 24, some (20, false), .iaddr (.slice 1) (.t 22) (.t 23)⟩,
      ⟨some 25, some (20, false), .load 1 false (.t 24)⟩,
      ⟨some 26, some (20, false), .faddr 0 (.t 7)⟩,
      ⟨some 27, some (20, false), .load 1 false (.t 26)⟩,
      ⟨some 28, some (20, false), .bin .leq (.t 25) (.t 27)⟩,
      ⟨some 29, none, .pick (.t 20) (.c (.bool true)) (.t 28)⟩])
     (.cond (.t 29)
      (.seq
       (.reg [⟨some 10, none, .mov (.c (.int .i64 0))⟩])
       .ret)
      .skip))
    (.seq
     (.reg [⟨some 30, none, .mov (.t 0)⟩,
      ⟨some 31, none, .load 2 true (.t 6)⟩,
      ⟨some 32, none, .load 2 true (.t 7)⟩,
      ⟨some 33, none, .mov (.t 3)⟩,
      ⟨some 34, none, .mov (.t 11)⟩,
      ⟨some 35, none, .call false 35 [(.t 30), (.t 31), (.t 32), (.t 33), (.t 34)]⟩,
      ⟨some 36, none, .bin .add (.c (.int .i64 1)) (.t 35)⟩,
      ⟨some 12, none, .mov (.t 36)⟩])
     (.seq
      (.seq
       (.reg [⟨some 37, none, .mov (.t 0)⟩,
        ⟨some 38, none, .faddr 0 (.t 6)⟩,
        ⟨some 39, none, .load 1 false (.t 38)⟩,
        ⟨some 40, none, .mov (.t 11)⟩,
        ⟨some 41, none, .iaddr (.slice 1) (.t 39) (.t 40)⟩,
        ⟨some 42, none, .load 1 false (.t 41)⟩,
        ⟨some 43, none, .iaddr (.slice 2) (.t 37) (.t 42)⟩,
        ⟨some 44, none, .faddr 0 (.t 43)⟩,
        ⟨some 45, none, .load 1 false (.t 44)⟩,
        ⟨some 46, none, .faddr 1 (.t 7)⟩,
        ⟨some 47, none, .load 1 false (.t 46)⟩,
        ⟨some 48, none, .bin .lss (.t 45) (.t 47)⟩])
       (.cond (.t 48)
        (.reg [⟨some 49, none, .mov (.t 12)⟩,
         ⟨some 50, none, .mov (.t 0)⟩,
         ⟨some 51, none, .load 2 true (.t 6)⟩,
         ⟨some 52, none, .load 2 true (.t 7)⟩,
         ⟨some 53, none, .mov (.t 11)⟩,
         ⟨some 54, none, .bin .add (.t 53) (.c (.int .i64 1))⟩,
         ⟨some 55, none, .mov (.t 4)⟩,
         ⟨some 56, none, .call false 35 [(.t 50), (.t 51), (.t 52), (.t 54), (.t 55)]⟩,
         ⟨some 57, none, .bin .add (.t 49) (.t 56)⟩,
         ⟨some 12, none, .mov (.t 57)⟩])
        .skip))
      (.seq
       (.reg [⟨some 58, none, .mov (.t 12)⟩,
        ⟨some 10, none, .mov (.t 58)⟩])
       .ret)))))), none⟩
def k35 : List (List Nat) := []
def o35 : List Nat := [1000023, 1000027, 1000029, 1000031, 1000032, 1000037, 1000041, 1000042, 1000044, 1000046, 1000047, 1000048, 1000049, 1000050, 1000051, 1000052, 1000053, 1000057, 1000058, 1000059, 1000060, 1000061, 1000062, 1000064, 1000065, 1000066, 1000067, 1000070, 1000071, 1000072, 1000073, 1000074, 1000075, 1000076, 1000077, 1000078, 1000079, 1000080, 1000081, 1000082, 1000083, 1000084, 1000085, 1000086, 1000087, 1000088, 3000000]
def c36b0 : AC := (.seq
           (.reg [⟨some 28, none, .bin .lss (.t 27) (.t 26)⟩])
           (.seq
            (.cond (.t 28)
             .skip
             (.exit 2))
            (.seq
             (.block 3
              (.seq
               (.reg [⟨some 29, none, .iaddr (.slice 2) (.t 25) (.t 27)⟩,
                ⟨some 30, none, .load 2 true (.t 29)⟩,
                ⟨some 8, none, .alloc [(.int .i64 0), (.int .i64 0)]⟩,
                ⟨none, none, .store 2 (.t 8) (.t 30)⟩])
               (.seq
                (.reg [⟨some 31, none, .mov (.t 6)⟩,
                 ⟨some 32, none, .len (.t 31)⟩,
                 ⟨some 33, none, .bin .sub (.t 32) (.c (.int .i64 1))⟩,
                 ⟨some 9, none, .mov (.t 33)⟩])
                (.seq
                 (.reg [⟨some 34, none, .mov (.t 9)⟩,
                  ⟨some 35, none, .bin .geq (.t 34) (.c (.int .i64 0))⟩,
                  ⟨some 36, none, .mov (.t 35)⟩,
                  ⟨some 37, some (36, true), .faddr 0 (.t 8)⟩,
                  ⟨some 38, some (36, true), .load 1 false (.t 37)⟩,
                  ⟨some 39, some (36, true), .mov (.t 6)⟩,
                  ⟨some 40, some (36, true), .mov (.t 9)⟩,
                  ⟨some 41, some (36, true), .iaddr (.slice 2) (.t 39) (.t 40)⟩,
                  ⟨some 42, some (36, true), .faddr 1 (.t 41)⟩,
                  ⟨some 43, some (36, true), .load 1 false (.t 42)⟩,
                  ⟨some 44, some (36, true), .bin .leq (.t 38) (.t 43)⟩,
                  ⟨some 45, none, .pick (.t 36) (.t 44) (.c (.bool false))⟩])
                 (.cond (.t 45)
                  (.reg [⟨some 46, none, .mov (.t 6)⟩,
                   ⟨some 47, none, .mov (.t 9)⟩,
                   ⟨some 48, none, .mov (.t 6)⟩,
                   ⟨some 49, none, .mov (.t 9)⟩,
                   ⟨some 50, none, .iaddr (.slice 2) (.t 48) (.t 49)⟩,
                   ⟨some 51, none, .faddr 1 (.t 50)⟩,
                   ⟨some 52, none, .load 1 false (.t 51)⟩,
                   ⟨some 53, none, .faddr 1 (.t 8)⟩,
                   ⟨some 54, none, .load 1 false (.t 53)⟩,
                   ⟨some 55, none, .max [(.t 52), (.t 54)]⟩,
                   ⟨some 56, none, .iaddr (.slice 2) (.t 46) (.t 47)⟩,
                   ⟨some 57, none, .faddr 1 (.t 56)⟩,
                   ⟨none, none, .store 1 (.t 57) (.t 55)⟩])
                  (.reg [⟨some 58, none, .mov (.t 6)⟩,
                   ⟨some 59, none, .load 2 true (.t 8)⟩,
                   ⟨some 60, none, .bslice false 2 [(.int .i64 0), (.int .i64 0)] 1 [(0, (.t 59))]⟩,
                   ⟨some 61, none, .append 2 16 (.t 58) (.t 60)⟩,
                   ⟨some 6, none, .mov (.t 61)⟩]))))))
             (.reg [⟨some 62, none, .bin .add (.t 27) (.c (.int .i64 1))⟩,
              ⟨some 27, none, .mov (.t 62)⟩]))))
def c36b1 : AC := (.seq
        (.reg [⟨some 13, none, .bin .lss (.t 12) (.t 11)⟩])
        (.seq
         (.cond (.t 13)
          .skip
          (.exit 0))
         (.seq
          (.block 1
           (.seq
            (.reg [⟨some 14, none, .iaddr (.slice 2) (.t 10) (.t 12)⟩,
             ⟨some 15, none, .load 2 true (.t 14)⟩,
             ⟨some 5, none, .alloc [(.int .i64 0), (.int .i64 0)]⟩,
             ⟨none, none, .store 2 (.t 5) (.t 15)⟩])
            (.seq
             (.reg [⟨some 16, none, .load 2 true (.t 5)⟩,
              ⟨some 17, none, .call false 43 [(.t 16)]⟩])
             (.cond (.t 17)
              (.reg [⟨some 18, none, .mov (.t 3)⟩,
               ⟨some 19, none, .load 2 true (.t 5)⟩,
               ⟨some 20, none, .bslice false 2 [(.int .i64 0), (.int .i64 0)] 1 [(0, (.t 19))]⟩,
               ⟨some 21, none, .append 2 16 (.t 18) (.t 20)⟩,
               ⟨some 3, none, .mov (.t 21)⟩])
              .skip))))
          (.reg [⟨some 22, none, .bin .add (.t 12) (.c (.int .i64 1))⟩,
           ⟨some 12, none, .mov (.t 22)⟩]))))
def c36r0 : AC := (.seq
     (.reg [⟨some 23, none, .mov (.t 3)⟩,
      ⟨some 24, none, .callS 44 [(.t 23), (.c (.fn 45 []))]⟩])
     (.seq
      (.reg [⟨some 6, none, .nilv 2⟩])
      (.seq
       (.seq
        (.reg [⟨some 25, none, .mov (.t 3)⟩,
         ⟨some 26, none, .len (.t 25)⟩,
         ⟨some 27, none, .mov (.c (.int .i64 0))⟩])
        (.block 2
         (.loop [6, 25, 26, 27]
          c36b0)))
       (.seq
        (.reg [⟨some 63, none, .mov (.t 6)⟩,
         ⟨some 2, none, .mov (.t 63)⟩])
        .ret))))
/-- tracebook/spans.Normal -/
def c36 : AFn := ⟨1, 64, [.t 2],
 (.seq
  (.reg [⟨some 2, none, .nilv 2⟩])
  (.seq
   (.reg [⟨some 3, none, .nilv 2⟩])
   (.seq
    (.seq
     (.reg [⟨some 10, none, .mov (.t 0)⟩,
      ⟨some 11, none, .len (.t 10)⟩,
      ⟨some 12, none, .mov (.c (.int .i64 0))⟩])
     (.block 0
      (.loop [3, 10, 11, 12]
       c36b1)))
    c36r0))), none⟩
def k36 : List (List Nat) := [[3, 10, 11, 12], [6, 25, 26, 27]]
def o36 : List Nat := [1000023, 1000027, 1000029, 1000031, 1000032, 1000037, 1000041, 1000042, 1000044, 1000046, 1000047, 1000048, 1000049, 1000050, 1000051, 1000052, 1000053, 1000057, 1000058, 1000059, 1000060, 1000061, 1000062, 1000064, 1000065, 1000066, 1000067, 1000070, 1000071, 1000072, 1000073, 1000074, 1000075, 1000076, 1000077, 1000078, 1000079, 1000080, 1000081, 1000082, 1000083, 1000084, 1000085, 1000086, 1000087, 1000088, 3000000]
def c37b0 : AC := (.block 1
      (.seq
       (.reg [⟨some 21, none, .mov (.t 2)⟩,
        ⟨some 22, none, .mov (.t 1)⟩,
        ⟨some 23, none, .bin .sub (.t 21) (.t 22)⟩,
        ⟨some 12, none, .mov (.t 23)⟩])
       (.seq
        (.seq
         (.reg [⟨some 24, none, .mov (.t 12)⟩,
          ⟨some 25, none, .bin .leq (.t 24) (.c (.int .i64 12))⟩])
         (.cond (.t 25)
          (.seq
           (.reg [⟨some 26, none, .mov (.t 0)⟩,
            ⟨some 27, none, .mov (.t 1)⟩,
            ⟨some 28, none, .mov (.t 2)⟩,
            ⟨some 29, none, .mov (.t 4)⟩,
            ⟨some 30, none, .callS 46 [(.t 26), (.t 27), (.t 28), (.t 29)]⟩])
           .ret)
          .skip))
        (.seq
         (.seq
          (.reg [⟨some 31, none, .mov (.t 3)⟩,
           ⟨some 32, none, .bin .eql (.t 31) (.c (.int .i64 0))⟩])
          (.cond (.t 32)
           (.seq
            (.reg [⟨some 33, none, .mov (.t 0)⟩,
             ⟨some 34, none, .mov (.t 1)⟩,
             ⟨some 35, none, .mov (.t 2)⟩,
             ⟨some 36, none, .mov (.t 4)⟩,
             ⟨some 37, none, .callS 47 [(.t 33), (.t 34), (.t 35), (.t 36)]⟩])
            .ret)
           .skip))
         (.seq
          (.seq
           (.reg [⟨some 38, none, .mov (.t 10)⟩,
            ⟨some 39, none, .un .not (.t 38)⟩])
           (.cond (.t 39)
            (.seq
             (.reg [⟨some 40, none, .mov (.t 0)⟩,
              ⟨some 41, none, .mov (.t 1)⟩,
              ⟨some 42, none, .mov (.t 2)⟩,
              ⟨some 43, none, .mov (.t 4)⟩,
              ⟨some 44, none, .callS 48 [(.t 40), (.t 41), (.t 42), (.t 43)]⟩])
             (.reg [⟨some 45, none, .mov (.t 3)⟩,
              ⟨some 46, none, .bin .sub (.t 45) (.c (.int .i64 1))⟩,
              ⟨some 3, none, .mov (.t 46)⟩]))
            .skip))
          (.seq
           (.reg [⟨some 48, none, .mov (.t 0)⟩,
            ⟨some 49, none, .mov (.t 1)⟩,
            ⟨some 50, none, .mov (.t 2)⟩,
            ⟨some 51, none, .mov (.t 4)⟩,
            ⟨some 52, none, .callS 49 [(.t 48), (.t 49), (.t 50), (.t 51)]⟩,
            ⟨some 47, none, .mov (.t 52)⟩,
            ⟨some 53, none, .ext (.t 47) 0⟩,
            ⟨some 54, none, .ext (.t 47) 1⟩,
            ⟨some 13, none, .mov (.t 53)⟩,
            ⟨some 14, none, .mov (.t 54)⟩])
           (.seq
            (.seq
             (.reg [⟨some 55, none, .mov (.t 14)⟩,
              ⟨some 56, none, .bin .eql (.t 55) (.c (.int .i64 2))⟩])
             (.cond (.t 56)
              (.seq
               (.reg [⟨some 57, none, .mov (.t 0)⟩,
                ⟨some 58, none, .mov (.t 1)⟩,
                ⟨some 59, none, .mov (.t 2)⟩,
                ⟨some 60, none, .mov (.t 4)⟩,
                ⟨some 61, none, .callS 50 [(.t 57), (.t 58), (.t 59), (.t 60)]⟩])
               (.seq
                (.reg [⟨some 62, none, .mov (.t 2)⟩,
                 ⟨some 63, none, .bin .sub (.t 62) (.c (.int .i64 1))⟩,
                 ⟨some 64, none, .mov (.t 13)⟩,
                 ⟨some 65, none, .mov (.t 1)⟩,
                 ⟨some 66, none, .bin .sub (.t 64) (.t 65)⟩,
                 ⟨some 67, none, .bin .sub (.t 63) (.t 66)⟩,
                 ⟨some 13, none, .mov (.t 67)⟩])
                (.reg [⟨some 14, none, .mov (.c (.int .i64 1))⟩])))
              .skip))
            (.seq
             (.seq
              (.reg [⟨some 68, none, .mov (.t 10)⟩,
               ⟨some 69, none, .mov (.t 68)⟩,
               ⟨some 70, some (69, true), .mov (.t 11)⟩,
               ⟨some 71, none, .pick (.t 69) (.t 70) (.c (.bool false))⟩,
               ⟨some 72, none, .mov (.t 71)⟩,
               ⟨some 73, some (72, true), .mov (.t 14)⟩,
               ⟨some 74, some (72, true), .bin .eql (.t 73) (.c (.int .i64 1))⟩,
               ⟨some 75, none, .pick (.t 72) (.t 74) (.c (.bool false))⟩])
              (.cond (.t 75)
               (.seq
                (.reg [⟨some 76, none, .mov (.t 0)⟩,
                 ⟨some 77, none, .mov (.t 1)⟩,
                 ⟨some 78, none, .mov (.t 2)⟩,
                 ⟨some 79, none, .mov (.t 4)⟩,
                 ⟨some 80, none, .callS 51 [(.t 76), (.t 77), (.t 78), (.t 79)]⟩])
                (.cond (.t 80)
                 .ret
                 .skip))
               .skip))
             (.seq
              (.seq
               (.reg [⟨some 81, none, .mov (.t 1)⟩,
                ⟨some 82, none, .bin .gtr (.t 81) (.c (.int .i64 0))⟩,
                ⟨some 83, none, .mov (.t 82)⟩,
                ⟨some 84, some (83, true), .mov (.t 4)⟩,
                ⟨some 85, some (83, true), .mov (.t 0)⟩,
                ⟨some 86, some (83, true), .mov (.t 1)⟩,
                ⟨some 87, some (83, true), .bin .sub (.t 86) (.c (.int .i64 1))⟩,
                ⟨some 88, some (83, true), .iaddr (.slice 1) (.t 85) (.t 87)⟩,
                ⟨some 89, some (83, true), .load 1 false (.t 88)⟩,
                ⟨some 90, some (83, true), .mov (.t 0)⟩,
                ⟨some 91, some (83, true), .mov (.t 13)⟩,
                ⟨some 92, some (83, true), .iaddr (.slice 1) (.t 90) (.t 91)⟩,
                ⟨some 93, some (83, true), .load 1 false (.t 92)⟩,
                ⟨some 94, some (83, true), .calld false (.t 84) [(.t 89), (.t 93)]⟩,
                ⟨some 95, some (83, true), .bin .lss (.t 94) (.c (.int .i64 0))⟩,
                ⟨some 96, some (83, true), .un .not (.t 95)⟩,
                ⟨some 97, none, .pick (.t 83) (.t 96) (.c (.bool false))⟩])
               (.cond (.t 97)
                (.seq
                 (.reg [⟨some 98, none, .mov (.t 0)⟩,
                  ⟨some 99, none, .mov (.t 1)⟩,
                  ⟨some 100, none, .mov (.t 2)⟩,
                  ⟨some 101, none, .mov (.t 13)⟩,
                  ⟨some 102, none, .mov (.t 4)⟩,
                  ⟨some 103, none, .callS 52 [(.t 98), (.t 99), (.t 100), (.t 101), (.t 102)]⟩,
                  ⟨some 15, none, .mov (.t 103)⟩])
                 (.seq
                  (.reg [⟨some 104, none, .mov (.t 15)⟩,
                   ⟨some 1, none, .mov (.t 104)⟩])
                  (.exit 1)))
                .skip))
              (.seq
               (.reg [⟨some 106, none, .mov (.t 0)⟩,
                ⟨some 107, none, .mov (.t 1)⟩,
                ⟨some 108, none, .mov (.t 2)⟩,
                ⟨some 109, none, .mov (.t 13)⟩,
                ⟨some 110, none, .mov (.t 4)⟩,
                ⟨some 111, none, .callS 53 [(.t 106), (.t 107), (.t 108), (.t 109), (.t 110)]⟩,
                ⟨some 105, none, .mov (.t 111)⟩,
                ⟨some 112, none, .ext (.t 105) 0⟩,
                ⟨some 113, none, .ext (.t 105) 1⟩,
                ⟨some 16, none, .mov (.t 112)⟩,
                ⟨some 17, none, .mov (.t 113)⟩])
               (.seq
                (.reg [⟨some 114, none, .mov (.t 17)⟩,
                 ⟨some 11, none, .mov (.t 114)⟩])
                (.seq
                 (.reg [⟨some 115, none, .mov (.t 16)⟩,
                  ⟨some 116, none, .mov (.t 1)⟩,
                  ⟨some 117, none, .bin .sub (.t 115) (.t 116)⟩,
                  ⟨some 118, none, .mov (.t 2)⟩,
                  ⟨some 119, none, .mov (.t 16)⟩,
                  ⟨some 120, none, .bin .sub (.t 118) (.t 119)⟩,
                  ⟨some 18, none, .mov (.t 117)⟩,
                  ⟨some 19, none, .mov (.t 120)⟩])
                 (.seq
                  (.reg [⟨some 121, none, .mov (.t 12)⟩,
                   ⟨some 122, none, .bin .quo (.t 121) (.c (.int .i64 8))⟩,
                   ⟨some 20, none, .mov (.t 122)⟩])
                  (.seq
                   (.reg [⟨some 123, none, .mov (.t 18)⟩,
                    ⟨some 124, none, .mov (.t 19)⟩,
                    ⟨some 125, none, .bin .lss (.t 123) (.t 124)⟩])
                   (.cond (.t 125)
                    (.seq
                     (.reg [⟨some 126, none, .mov (.t 18)⟩,
                      ⟨some 127, none, .mov (.t 20)⟩,
                      ⟨some 128, none, .bin .geq (.t 126) (.t 127)⟩,
                      ⟨some 10, none, .mov (.t 128)⟩])
                     (.seq
                      (.reg [⟨some 129, none, .mov (.t 0)⟩,
                       ⟨some 130, none, .mov (.t 1)⟩,
                       ⟨some 131, none, .mov (.t 16)⟩,
                       ⟨some 132, none, .mov (.t 3)⟩,
                       ⟨some 133, none, .mov (.t 4)⟩,
                       ⟨some 134, none, .callS 37 [(.t 129), (.t 130), (.t 131), (.t 132), (.t 133)]⟩])
                      (.reg [⟨some 135, none, .mov (.t 16)⟩,
                       ⟨some 136, none, .bin .add (.t 135) (.c (.int .i64 1))⟩,
                       ⟨some 1, none, .mov (.t 136)⟩])))
                    (.seq
                     (.reg [⟨some 137, none, .mov (.t 19)⟩,
                      ⟨some 138, none, .mov (.t 20)⟩,
                      ⟨some 139, none, .bin .geq (.t 137) (.t 138)⟩,
                      ⟨some 10, none, .mov (.t 139)⟩])
                     (.seq
                      (.reg [⟨some 140, none, .mov (.t 0)⟩,
                       ⟨some 141, none, .mov (.t 16)⟩,
                       ⟨some 142, none, .bin .add (.t 141) (.c (.int .i64 1))⟩,
                       ⟨some 143, none, .mov (.t 2)⟩,
                       ⟨some 144, none, .mov (.t 3)⟩,
                       ⟨some 145, none, .mov (.t 4)⟩,
                       ⟨some 146, none, .callS 37 [(.t 140), (.t 142), (.t 143), (.t 144), (.t 145)]⟩])
                      (.reg [⟨some 147, none, .mov (.t 16)⟩,
                       ⟨some 2, none, .mov (.t 147)⟩]))))))))))))))))))
/-- slices.pdqsortCmpFunc[int] -/
def c37 : AFn := ⟨5, 148, [],
 (.seq
  (.reg [⟨some 10, none, .mov (.c (.bool true))⟩])
  (.seq
   (.reg [⟨some 11, none, .mov (.c (.bool true))⟩])
   (.block 0
    (.loop [0, 1, 2, 3, 4, 10, 11]
     c37b0)))), none⟩
def k37 : List (List Nat) := [[0, 1, 2, 3, 4, 10, 11]]
def o37 : List Nat := [1000023, 1000027, 1000029, 1000031, 1000032, 1000037, 1000041, 1000042, 1000044, 1000046, 1000047, 1000048, 1000049, 1000050, 1000051, 1000052, 1000053, 1000057, 1000058, 1000059, 1000060, 1000061, 1000062, 1000064, 1000065, 1000066, 1000067, 1000070, 1000071, 1000072, 1000073, 1000074, 1000075, 1000076, 1000077, 1000078, 1000079, 1000080, 1000081, 1000082, 1000083, 1000084, 1000085, 1000086, 1000087, 1000088, 3000000]
/-- math/bits.Len -/
def c38 : AFn := ⟨1, 8, [.t 2],
 (.seq
  (.reg [⟨some 2, none, .mov (.c (.int .i64 0))⟩])
  (.seq
   (.cond (.c (.bool false))
    (.seq
     (.reg [⟨some 3, none, .mov (.t 0)⟩,
      ⟨some 4, none, .conv (.int .u32) (.t 3)⟩,
      ⟨some 5, none, .call false 54 [(.t 4)]⟩,
      ⟨some 2, none, .mov (.t 5)⟩])
     .ret)
    .skip)
   (.seq
    (.reg [⟨some 6, none, .mov (.t 0)⟩,
     ⟨some 7, none, .call false 55 [(.t 6)]⟩,
     ⟨some 2, none, .mov (.t 7)⟩])
    .ret))), none⟩
def k38 : List (List Nat) := []
def o38 : List Nat := [1000023, 1000027, 1000029, 1000031, 1000032, 1000037, 1000041, 1000042, 1000044, 1000046, 1000047, 1000048, 1000049, 1000050, 1000051, 1000052, 1000053, 1000057, 1000058, 1000059, 1000060, 1000061, 1000062, 1000064, 1000065, 1000066, 1000067, 1000070, 1000071, 1000072, 1000073, 1000074, 1000075, 1000076, 1000077, 1000078, 1000079, 1000080, 1000081, 1000082, 1000083, 1000084, 1000085, 1000086, 1000087, 1000088, 3000000]
/-- cmp.isNaN[int] -/
def c39 : AFn := ⟨1, 6, [.t 2],
 (.seq
  (.reg [⟨some 2, none, .mov (.c (.bool false))⟩])
  (.seq
   (.reg [⟨some 3, none, .mov (.t 0)⟩,
    ⟨some 4, none, .mov (.t 0)⟩,
    ⟨some 5, none, .bin .neq (.t 3) (.t 4)⟩,
    ⟨some 2, none, .mov (.t 5)⟩])
   .ret)), none⟩
def k39 : List (List Nat) := []
def o39 : List Nat := [1000023, 1000027, 1000029, 1000031, 1000032, 1000037, 1000041, 1000042, 1000044, 1000046, 1000047, 1000048, 1000049, 1000050, 1000051, 1000052, 1000053, 1000057, 1000058, 1000059, 1000060, 1000061, 1000062, 1000064, 1000065, 1000066, 1000067, 1000070, 1000071, 1000072, 1000073, 1000074, 1000075, 1000076, 1000077, 1000078, 1000079, 1000080, 1000081, 1000082, 1000083, 1000084, 1000085, 1000086, 1000087, 1000088, 3000000]
/-- tracebook/tracebookref35.before -/
def c40 : AFn := ⟨3, 54, [.t 6],
 (.seq
  (.reg [⟨some 6, none, .mov (.c (.bool false))⟩])
  (.seq
   (.seq
    (.reg [⟨some 7, none, .mov (.t 0)⟩,
     ⟨some 8, none, .mov (.t 1)⟩,
     ⟨some 9, none, .iaddr (.slice 2) (.t 7) (.t 8)⟩,
     ⟨some 10, none, .faddr 0 (.t 9)⟩,
     ⟨some 11, none, .load 1 false (.t 10)⟩,
     ⟨some 12, none, .mov (.t 0)⟩,
     ⟨some 13, none, .mov (.t 2)⟩,
     ⟨some 14, none, .iaddr (.slice 2) (.t 12) (.t 13)⟩,
     ⟨some 15, none, .faddr 0 (.t 14)⟩,
     ⟨some 16, none, .load 1 false (.t 15)⟩,
     ⟨some 17, none, .bin .neq (.t 11) (.t 16)⟩])
    (.cond (.t 17)
     (.seq
      (.reg [⟨some 18, none, .mov (.t 0)⟩,
       ⟨some 19, none, .mov (.t 1)⟩,
       ⟨some 20, none, .iaddr (.slice 2) (.t 18) (.t 19)⟩,
       ⟨some 21, none, .faddr 0 (.t 20)⟩,
       ⟨some 22, none, .load 1 false (.t 21)⟩,
       ⟨some 23, none, .mov (.t 0)⟩,
       ⟨some 24, none, .mov (.t 2)⟩,
       ⟨some 25, none, .iaddr (.slice 2) (.t 23) (.t 24)⟩,
       ⟨some 26, none, .faddr 0 (.t 25)⟩,
       ⟨some 27, none, .load 1 false (.t 26)⟩,
       ⟨some 28, none, .bin .lss (.t 22) (.t 27)⟩,
       ⟨some 6, none, .mov (.t 28)⟩])
      .ret)
     .skip))
   (.seq
    (.seq
     (.reg [⟨some 29, none, .mov (.t 0)⟩,
      ⟨some 30, none, .mov (.t 1)⟩,
      ⟨some 31, none, .iaddr (.slice 2) (.t 29) (.t 30)⟩,
      ⟨some 32, none, .faddr 1 (.t 31)⟩,
      ⟨some 33, none, .load 1 false (.t 32)⟩,
      ⟨some 34, none, .mov (.t 0)⟩,
      ⟨some 35, none, .mov (.t 2)⟩,
      ⟨some 36, none, .iaddr (.slice 2) (.t 34) (.t 35)⟩,
      ⟨some 37, none, .faddr 1 (.t 36)⟩,
      ⟨some 38, none, .load 1 false (.t 37)⟩,
      ⟨some 39, none, .bin .neq (.t 33) (.t 38)⟩])
     (.cond (.t 39)
      (.seq
       (.reg [⟨some 40, none, .mov (.t 0)⟩,
        ⟨some 41, none, .mov (.t 1)⟩,
        ⟨some 42, none, .iaddr (.slice 2) (.t 40) (.t 41)⟩,
        ⟨some 43, none, .faddr 1 (.t 42)⟩,
        ⟨some 44, none, .load 1 false (.t 43)⟩,
        ⟨some 45, none, .mov (.t 0)⟩,
        ⟨some 46, none, .mov (.t 2)⟩,
        ⟨some 47, none, .iaddr (.slice 2) (.t 45) (.t 46)⟩,
        ⟨some 48, none, .faddr 1 (.t 47)⟩,
        ⟨some 49, none, .load 1 false (.t 48)⟩,
        ⟨some 50, none, .bin .lss (.t 44) (.t 49)⟩,
        ⟨some 6, none, .mov (.t 50)⟩])
       .ret)
      .skip))
    (.seq
     (.reg [⟨some 51, none, .mov (.t 1)⟩,
      ⟨some 52, none, .mov (.t 2)⟩,
      ⟨some 53, none, .bin .lss (.t 51) (.t 52)⟩,
      ⟨some 6, none, .mov (.t 53)⟩])
     .ret)))), none⟩
def k40 : List (List Nat) := []
def o40 : List Nat := [1000023, 1000027, 1000029, 1000031, 1000032, 1000037, 1000041, 1000042, 1000044, 1000046, 1000047, 1000048, 1000049, 1000050, 1000051, 1000052, 1000053, 1000057, 1000058, 1000059, 1000060, 1000061, 1000062, 1000064, 1000065, 1000066, 1000067, 1000070, 1000071, 1000072, 1000073, 1000074, 1000075, 1000076, 1000077, 1000078, 1000079, 1000080, 1000081, 1000082, 1000083, 1000084, 1000085, 1000086, 1000087, 1000088, 3000000]
/-- (*tracebook/itree.examiner).examine -/
def c41 : AFn := ⟨3, 91, [],
 (.seq
  (.reg [⟨some 8, none, .mov (.t 1)⟩,
   ⟨some 9, none, .mov (.t 2)⟩,
   ⟨some 10, none, .bin .add (.t 8) (.t 9)⟩,
   ⟨some 11, none, .bin .quo (.t 10) (.c (.int .i64 2))⟩,
   ⟨some 6, none, .mov (.t 11)⟩])
  (.seq
   (.seq
    (.reg [⟨some 12, none, .mov (.t 1)⟩,
     ⟨some 13, none, .mov (.t 2)⟩,
     ⟨some 14, none, .bin .geq (.t 12) (.t 13)⟩,
     ⟨some 15, none, .mov (.t 14)⟩,
     ⟨some 16, some (15, false), .mov (.t 0)⟩,
     ⟨some 17, some (15, false), .nilck (.t 16)⟩,
     ⟨some 18, some (15, false), .faddr 1 (.t 17)⟩,
     ⟨some 19, some (15, false), .faddr 1 (.t 18)⟩,
     ⟨some 20, some (15, false), .load 1 false (.t 19)⟩,
     ⟨some 21, some (15, false), .mov (.t 6)⟩,
     ⟨some 22, some (15, false), .iaddr (.slice 1) (.t 20) (.t 21)⟩,
     ⟨some 23, some (15, false), .load 1 false (.t 22)⟩,
     ⟨some 24, some (15, false), .mov (.t 0)⟩,
     ⟨some 25, some (15, false), .nilck (.t 24)⟩,
     ⟨some 26, some (15, false), .faddr 3 (.t 25)⟩,
     ⟨some 27, some (15, false), .faddr 0 (.t 26)⟩,
     ⟨some 28, some (15, false), .load 1 false (.t 27)⟩,
     ⟨some 29, some (15, false), .bin .leq (.t 23) (.t 28)⟩,
     ⟨some 30, none, .pick (.t 15) (.c (.bool true)) (.t 29)⟩])
    (.cond (.t 30)
     .ret
     .skip))
   (.seq
    (.reg [⟨some 31, none, .mov (.t 0)⟩,
     ⟨some 32, none, .nilck (.t 31)⟩,
     ⟨some 33, none, .faddr 5 (.t 32)⟩,
     ⟨some 34, none, .load 1 false (.t 33)⟩,
     ⟨some 35, none, .bin .add (.t 34) (.c (.int .i64 1))⟩,
     ⟨some 36, none, .nilck (.t 31)⟩,
     ⟨some 37, none, .faddr 5 (.t 36)⟩,
     ⟨none, none, .store 1 (.t 37) (.t 35)⟩])
    (.seq
     (.reg [⟨some 38, none, .mov (.t 0)⟩,
      ⟨some 39, none, .mov (.t 1)⟩,
      ⟨some 40, none, .mov (.t 6)⟩,
      ⟨some 41, none, .callS 41 [(.t 38), (.t 39), (.t 40)]⟩])
     (.seq
      (.reg [⟨some 42, none, .mov (.t 0)⟩,
       ⟨some 43, none, .nilck (.t 42)⟩,
       ⟨some 44, none, .faddr 1 (.t 43)⟩,
       ⟨some 45, none, .faddr 0 (.t 44)⟩,
       ⟨some 46, none, .load 1 false (.t 45)⟩,
       ⟨some 47, none, .mov (.t 6)⟩,
       ⟨some 48, none, .iaddr (.slice 1) (.t 46) (.t 47)⟩,
       ⟨some 49, none, .load 1 false (.t 48)⟩,
       ⟨some 7, none, .mov (.t 49)⟩])
      (.seq
       (.reg [⟨some 50, none, .mov (.t 0)⟩,
        ⟨some 51, none, .nilck (.t 50)⟩,
        ⟨some 52, none, .faddr 0 (.t 51)⟩,
        ⟨some 53, none, .load 1 false (.t 52)⟩,
        ⟨some 54, none, .mov (.t 7)⟩,
        ⟨some 55, none, .iaddr (.slice 2) (.t 53) (.t 54)⟩,
        ⟨some 56, none, .faddr 0 (.t 55)⟩,
        ⟨some 57, none, .load 1 false (.t 56)⟩,
        ⟨some 58, none, .mov (.t 0)⟩,
        ⟨some 59, none, .nilck (.t 58)⟩,
        ⟨some 60, none, .faddr 3 (.t 59)⟩,
        ⟨some 61, none, .faddr 1 (.t 60)⟩,
        ⟨some 62, none, .load 1 false (.t 61)⟩,
        ⟨some 63, none, .bin .lss (.t 57) (.t 62)⟩])
       (.cond (.t 63)
        (.seq
         (.seq
          (.reg [⟨some 64, none, .mov (.t 0)⟩,
           ⟨some 65, none, .nilck (.t 64)⟩,
           ⟨some 66, none, .faddr 0 (.t 65)⟩,
           ⟨some 67, none, .load 1 false (.t 66)⟩,
           ⟨some 68, none, .mov (.t 7)⟩,
           ⟨some 69, none, .iaddr (.slice 2) (.t 67) (.t 68)⟩,
           ⟨some 70, none, .load 2 true (.t 69)⟩,
           ⟨some 71, none, .mov (.t 0)⟩,
           ⟨some 72, none, .nilck (.t 71)⟩,
           ⟨some 73, none, .faddr 3 (.t 72)⟩,
           ⟨some 74, none, .load 2 true (.t 73)⟩,
           ⟨some 75, none, .call false 56 [(.t 70), (.t 74)]⟩])
          (.cond (.t 75)
           (.reg [⟨some 76, none, .mov (.t 0)⟩,
            ⟨some 77, none, .mov (.t 0)⟩,
            ⟨some 78, none, .nilck (.t 77)⟩,
            ⟨some 79, none, .faddr 6 (.t 78)⟩,
            ⟨some 80, none, .load 1 false (.t 79)⟩,
            ⟨some 81, none, .mov (.t 7)⟩,
            ⟨some 82, none, .bslice false 1 [(.int .i64 0)] 1 [(0, (.t 81))]⟩,
            ⟨some 83, none, .append 1 8 (.t 80) (.t 82)⟩,
            ⟨some 84, none, .nilck (.t 76)⟩,
            ⟨some 85, none, .faddr 6 (.t 84)⟩,
            ⟨none, none, .store 1 (.t 85) (.t 83)⟩])
           .skip))
         (.reg [⟨some 86, none, .mov (.t 0)⟩,
          ⟨some 87, none, .mov (.t 6)⟩,
          ⟨some 88, none, .bin .add (.t 87) (.c (.int .i64 1))⟩,
          ⟨some 89, none, .mov (.t 2)⟩,
          ⟨some 90, none, .callS 41 [(.t 86), (.t 88), (.t 89)]⟩]))
        .skip))))))), none⟩
def k41 : List (List Nat) := []
def o41 : List Nat := [1000023, 1000027, 1000029, 1000031, 1000032, 1000037, 1000041, 1000042, 1000044, 1000046, 1000047, 1000048, 1000049, 1000050, 1000051, 1000052, 1000053, 1000057, 1000058, 1000059, 1000060, 1000061, 1000062, 1000064, 1000065, 1000066, 1000067, 1000070, 1000071, 1000072, 1000073, 1000074, 1000075, 1000076, 1000077, 1000078, 1000079, 1000080, 1000081, 1000082, 1000083, 1000084, 1000085, 1000086, 1000087, 1000088, 3000000]
end Go.Proofs.Ytkodjmlhmpokoaa
