/- The code of the functions, as it is read. -/
import Derived.Test.YtddglikicokpeaaDoorSh
import Derived.Test.YtddglikicokpeaaDoorProg
namespace Go.Proofs.YtddglikicokpeaaDoor
open Go
/-- tracebook/tracebooklaw02.FracMakes -/
def c3 : AFn := ⟨2, 72, [.t 4],
 (.seq
  (.reg [⟨some 4, none, .mov (.c (.bool false))⟩])
  (.seq
   (.reg [⟨some 11, none, .mov (.t 0)⟩,
    ⟨some 12, none, .mov (.t 1)⟩,
    ⟨some 13, none, .call false 11 [(.t 11), (.t 12)]⟩,
    ⟨some 10, none, .mov (.t 13)⟩,
    ⟨some 14, none, .ext (.t 10) 0⟩,
    ⟨some 15, none, .ext (.t 10) 1⟩,
    ⟨some 5, none, .alloc [(.int .i64 0), (.int .i64 0)]⟩,
    ⟨none, none, .store 2 (.t 5) (.t 14)⟩,
    ⟨some 6, none, .mov (.t 15)⟩])
   (.seq
    (.reg [⟨some 17, none, .mov (.t 0)⟩,
     ⟨some 18, none, .mov (.t 1)⟩,
     ⟨some 19, none, .call false 12 [(.t 17), (.t 18)]⟩,
     ⟨some 16, none, .mov (.t 19)⟩,
     ⟨some 20, none, .ext (.t 16) 0⟩,
     ⟨some 21, none, .ext (.t 16) 1⟩,
     ⟨some 7, none, .alloc [(.int .i64 0), (.int .i64 0)]⟩,
     ⟨none, none, .store 2 (.t 7) (.t 20)⟩,
     ⟨some 8, none, .mov (.t 21)⟩])
    (.seq
     (.seq
      (.reg [⟨some 22, none, .load 2 true (.t 5)⟩,
       ⟨some 23, none, .load 2 true (.t 7)⟩,
       ⟨some 24, none, .beqA true [.i, .i] (.t 22) (.t 23)⟩,
       ⟨some 25, none, .mov (.t 24)⟩,
       ⟨some 26, some (25, false), .mov (.t 6)⟩,
       ⟨some 27, some (25, false), .mov (.t 8)⟩,
       ⟨some 28, some (25, false), .beq true (.t 26) (.t 27)⟩,
       ⟨some 29, none, .pick (.t 25) (.c (.bool true)) (.t 28)⟩,
       ⟨some 30, none, .mov (.t 29)⟩,
       ⟨some 31, some (30, false), .mov (.t 6)⟩,
       ⟨some 32, some (30, false), .mov (.t 31)⟩,
       ⟨some 33, some (32, true), .load 2 true (.t 5)⟩,
       ⟨some 34, some (32, true), .call false 13 [(.t 33)]⟩,
       ⟨some 35, some (32, true), .un .not (.t 34)⟩,
       ⟨some 36, some (30, false), .pick (.t 32) (.t 35) (.c (.bool false))⟩,
       ⟨some 37, none, .pick (.t 30) (.c (.bool true)) (.t 36)⟩])
      (.cond (.t 37)
       (.seq
        (.reg [⟨some 4, none, .mov (.c (.bool false))⟩])
        .ret)
       .skip))
     (.seq
      (.reg [⟨some 38, none, .mov (.t 0)⟩,
       ⟨some 39, none, .bin .gtr (.t 38) (.c (.int .i64 (-2147483648)))⟩,
       ⟨some 40, none, .mov (.t 39)⟩,
       ⟨some 41, some (40, true), .mov (.t 0)⟩,
       ⟨some 42, some (40, true), .bin .lss (.t 41) (.c (.int .i64 2147483648))⟩,
       ⟨some 43, none, .pick (.t 40) (.t 42) (.c (.bool false))⟩,
       ⟨some 44, none, .mov (.t 43)⟩,
       ⟨some 45, some (44, true), .mov (.t 1)⟩,
       ⟨some 46, some (44, true), .bin .gtr (.t 45) (.c (.int .i64 (-2147483648)))⟩,
       ⟨some 47, none, .pick (.t 44) (.t 46) (.c (.bool false))⟩,
       ⟨some 48, none, .mov (.t 47)⟩,
       ⟨some 49, some (48, true), .mov (.t 1)⟩,
       ⟨some 50, some (48, true), .bin .lss (.t 49) (.c (.int .i64 2147483648))⟩,
       ⟨some 51, none, .pick (.t 48) (.t 50) (.c (.bool false))⟩,
       ⟨some 9, none, .mov (.t 51)⟩])
      (.seq
       (.reg [⟨some 52, none, .mov (.t 6)⟩,
        ⟨some 53, none, .un .not (.t 52)⟩,
        ⟨some 54, none, .mov (.t 53)⟩,
        ⟨some 55, some (54, false), .mov (.t 9)⟩,
        ⟨some 56, some (54, false), .un .not (.t 55)⟩,
        ⟨some 57, none, .pick (.t 54) (.c (.bool true)) (.t 56)⟩,
        ⟨some 58, none, .mov (.t 57)⟩,
        ⟨some 59, some (58, false), .faddr 0 (.t 5)⟩,
        ⟨some 60, some (58, false), .load 1 false (.t 59)⟩,
        ⟨some 61, some (58, false), .mov (.t 1)⟩,
        ⟨some 62, some (58, false), .bin .mul (.t 60) (.t 61)⟩,
        ⟨some 63, some (58, false), .mov (.t 0)⟩,
        ⟨some 64, some (58, false), .faddr 1 (.t 5)⟩,
        ⟨some 65, some (58, false), .load 1 false (.t 64)⟩,
        ⟨some 66, some (58, false), .bin .mul (.t 63) (.t 65)⟩,
        ⟨some 67, some (58, false), .bin .eql (.t 62) (.t 66)⟩,
        ⟨some 68, none, .pick (.t 58) (.c (.bool true)) (.t 67)⟩,
        ⟨some 69, none, .mov (.t 68)⟩,
        ⟨some 70, some (69, true), .call false 14 []⟩,
        ⟨some 71, none, .pick (.t 69) (.t 70) (.c (.bool false))⟩,
        ⟨some 4, none, .mov (.t 71)⟩])
       .ret)))))), none⟩
def k3 : List (List Nat) := []
def o3 : List Nat := [3000000]
/-- tracebook/tracebooklaw02.FracChecks -/
def c4 : AFn := ⟨2, 47, [.t 4],
 (.seq
  (.reg [⟨some 2, none, .box (.t 0)⟩,
   ⟨some 3, none, .box (.t 1)⟩,
   ⟨some 4, none, .mov (.c (.bool false))⟩])
  (.seq
   (.seq
    (.reg [⟨some 6, none, .load 2 true (.t 2)⟩,
     ⟨some 7, none, .call false 13 [(.t 6)]⟩,
     ⟨some 8, none, .load 2 true (.t 2)⟩,
     ⟨some 9, none, .call false 15 [(.t 8)]⟩,
     ⟨some 10, none, .beq true (.t 7) (.t 9)⟩,
     ⟨some 11, none, .mov (.t 10)⟩,
     ⟨some 12, some (11, false), .load 2 true (.t 2)⟩,
     ⟨some 13, some (11, false), .call false 16 [(.t 12)]⟩,
     ⟨some 14, some (11, false), .load 2 true (.t 2)⟩,
     ⟨some 15, some (11, false), .call false 17 [(.t 14)]⟩,
     ⟨some 16, some (11, false), .bin .neq (.t 13) (.t 15)⟩,
     ⟨some 17, none, .pick (.t 11) (.c (.bool true)) (.t 16)⟩,
     ⟨some 18, none, .mov (.t 17)⟩,
     ⟨some 19, some (18, false), .load 2 true (.t 3)⟩,
     ⟨some 20, some (18, false), .call false 16 [(.t 19)]⟩,
     ⟨some 21, some (18, false), .load 2 true (.t 3)⟩,
     ⟨some 22, some (18, false), .call false 17 [(.t 21)]⟩,
     ⟨some 23, some (18, false), .bin .neq (.t 20) (.t 22)⟩,
     ⟨some 24, none, .pick (.t 18) (.c (.bool true)) (.t 23)⟩])
    (.cond (.t 24)
     (.seq
      (.reg [⟨some 4, none, .mov (.c (.bool false))⟩])
      .ret)
     .skip))
   (.seq
    (.reg [⟨some 25, none, .load 2 true (.t 2)⟩,
     ⟨some 26, none, .call false 13 [(.t 25)]⟩,
     ⟨some 27, none, .mov (.t 26)⟩,
     ⟨some 28, some (27, true), .load 2 true (.t 3)⟩,
     ⟨some 29, some (27, true), .call false 13 [(.t 28)]⟩,
     ⟨some 30, none, .pick (.t 27) (.t 29) (.c (.bool false))⟩,
     ⟨some 5, none, .mov (.t 30)⟩])
    (.seq
     (.reg [⟨some 31, none, .mov (.t 5)⟩,
      ⟨some 32, none, .un .not (.t 31)⟩,
      ⟨some 33, none, .mov (.t 32)⟩,
      ⟨some 34, some (33, false), .load 2 true (.t 2)⟩,
      ⟨some 35, some (33, false), .call false 16 [(.t 34)]⟩,
      ⟨some 36, some (33, false), .load 2 true (.t 3)⟩,
      ⟨some 37, some (33, false), .call false 16 [(.t 36)]⟩,
      ⟨some 38, some (33, false), .bin .eql (.t 35) (.t 37)⟩,
      ⟨some 39, some (33, false), .load 2 true (.t 2)⟩,
      ⟨some 40, some (33, false), .load 2 true (.t 3)⟩,
      ⟨some 41, some (33, false), .beqA false [.i, .i] (.t 39) (.t 40)⟩,
      ⟨some 42, some (33, false), .beq false (.t 38) (.t 41)⟩,
      ⟨some 43, none, .pick (.t 33) (.c (.bool true)) (.t 42)⟩,
      ⟨some 44, none, .mov (.t 43)⟩,
      ⟨some 45, some (44, true), .call false 14 []⟩,
      ⟨some 46, none, .pick (.t 44) (.t 45) (.c (.bool false))⟩,
      ⟨some 4, none, .mov (.t 46)⟩])
     .ret)))), none⟩
def k4 : List (List Nat) := []
def o4 : List Nat := [3000000]
/-- tracebook/tracebooklaw02.FracExact -/
def c5 : AFn := ⟨2, 93, [.t 4],
 (.seq
  (.reg [⟨some 2, none, .box (.t 0)⟩,
   ⟨some 3, none, .box (.t 1)⟩,
   ⟨some 4, none, .mov (.c (.bool false))⟩])
  (.seq
   (.reg [⟨some 18, none, .load 2 true (.t 2)⟩,
    ⟨some 19, none, .load 2 true (.t 3)⟩,
    ⟨some 20, none, .call false 18 [(.t 18), (.t 19)]⟩,
    ⟨some 17, none, .mov (.t 20)⟩,
    ⟨some 21, none, .ext (.t 17) 0⟩,
    ⟨some 22, none, .ext (.t 17) 1⟩,
    ⟨some 5, none, .alloc [(.int .i64 0), (.int .i64 0)]⟩,
    ⟨none, none, .store 2 (.t 5) (.t 21)⟩,
    ⟨some 6, none, .mov (.t 22)⟩])
   (.seq
    (.reg [⟨some 24, none, .load 2 true (.t 2)⟩,
     ⟨some 25, none, .load 2 true (.t 3)⟩,
     ⟨some 26, none, .call false 19 [(.t 24), (.t 25)]⟩,
     ⟨some 23, none, .mov (.t 26)⟩,
     ⟨some 27, none, .ext (.t 23) 0⟩,
     ⟨some 28, none, .ext (.t 23) 1⟩,
     ⟨some 7, none, .alloc [(.int .i64 0), (.int .i64 0)]⟩,
     ⟨none, none, .store 2 (.t 7) (.t 27)⟩,
     ⟨some 8, none, .mov (.t 28)⟩])
    (.seq
     (.reg [⟨some 30, none, .load 2 true (.t 2)⟩,
      ⟨some 31, none, .load 2 true (.t 3)⟩,
      ⟨some 32, none, .call false 20 [(.t 30), (.t 31)]⟩,
      ⟨some 29, none, .mov (.t 32)⟩,
      ⟨some 33, none, .ext (.t 29) 0⟩,
      ⟨some 34, none, .ext (.t 29) 1⟩,
      ⟨some 9, none, .alloc [(.int .i64 0), (.int .i64 0)]⟩,
      ⟨none, none, .store 2 (.t 9) (.t 33)⟩,
      ⟨some 10, none, .mov (.t 34)⟩])
     (.seq
      (.reg [⟨some 36, none, .load 2 true (.t 2)⟩,
       ⟨some 37, none, .load 2 true (.t 3)⟩,
       ⟨some 38, none, .call false 21 [(.t 36), (.t 37)]⟩,
       ⟨some 35, none, .mov (.t 38)⟩,
       ⟨some 39, none, .ext (.t 35) 0⟩,
       ⟨some 40, none, .ext (.t 35) 1⟩,
       ⟨some 11, none, .alloc [(.int .i64 0), (.int .i64 0)]⟩,
       ⟨none, none, .store 2 (.t 11) (.t 39)⟩,
       ⟨some 12, none, .mov (.t 40)⟩])
      (.seq
       (.reg [⟨some 42, none, .load 2 true (.t 2)⟩,
        ⟨some 43, none, .load 2 true (.t 3)⟩,
        ⟨some 44, none, .call false 22 [(.t 42), (.t 43)]⟩,
        ⟨some 41, none, .mov (.t 44)⟩,
        ⟨some 45, none, .ext (.t 41) 0⟩,
        ⟨some 46, none, .ext (.t 41) 1⟩,
        ⟨some 13, none, .alloc [(.int .i64 0), (.int .i64 0)]⟩,
        ⟨none, none, .store 2 (.t 13) (.t 45)⟩,
        ⟨some 14, none, .mov (.t 46)⟩])
       (.seq
        (.reg [⟨some 48, none, .load 2 true (.t 2)⟩,
         ⟨some 49, none, .load 2 true (.t 3)⟩,
         ⟨some 50, none, .call false 23 [(.t 48), (.t 49)]⟩,
         ⟨some 47, none, .mov (.t 50)⟩,
         ⟨some 51, none, .ext (.t 47) 0⟩,
         ⟨some 52, none, .ext (.t 47) 1⟩,
         ⟨some 15, none, .alloc [(.int .i64 0), (.int .i64 0)]⟩,
         ⟨none, none, .store 2 (.t 15) (.t 51)⟩,
         ⟨some 16, none, .mov (.t 52)⟩])
        (.seq
         (.reg [⟨some 53, none, .load 2 true (.t 5)⟩,
          ⟨some 54, none, .load 2 true (.t 7)⟩,
          ⟨some 55, none, .beqA false [.i, .i] (.t 53) (.t 54)⟩,
          ⟨some 56, none, .mov (.t 55)⟩,
          ⟨some 57, some (56, true), .mov (.t 6)⟩,
          ⟨some 58, some (56, true), .mov (.t 8)⟩,
          ⟨some 59, some (56, true), .beq false (.t 57) (.t 58)⟩,
          ⟨some 60, none, .pick (.t 56) (.t 59) (.c (.bool false))⟩,
          ⟨some 61, none, .mov (.t 60)⟩,
          ⟨some 62, some (61, true), .load 2 true (.t 9)⟩,
          ⟨some 63, some (61, true), .load 2 true (.t 11)⟩,
          ⟨some 64, some (61, true), .beqA false [.i, .i] (.t 62) (.t 63)⟩,
          ⟨some 65, none, .pick (.t 61) (.t 64) (.c (.bool false))⟩,
          ⟨some 66, none, .mov (.t 65)⟩,
          ⟨some 67, some (66, true), .mov (.t 10)⟩,
          ⟨some 68, some (66, true), .mov (.t 12)⟩,
          ⟨some 69, some (66, true), .beq false (.t 67) (.t 68)⟩,
          ⟨some 70, none, .pick (.t 66) (.t 69) (.c (.bool false))⟩,
          ⟨some 71, none, .mov (.t 70)⟩,
          ⟨some 72, some (71, true), .load 2 true (.t 13)⟩,
          ⟨some 73, some (71, true), .load 2 true (.t 15)⟩,
          ⟨some 74, some (71, true), .beqA false [.i, .i] (.t 72) (.t 73)⟩,
          ⟨some 75, none, .pick (.t 71) (.t 74) (.c (.bool false))⟩,
          ⟨some 76, none, .mov (.t 75)⟩,
          ⟨some 77, some (76, true), .mov (.t 14)⟩,
          ⟨some 78, some (76, true), .mov (.t 16)⟩,
          ⟨some 79, some (76, true), .beq false (.t 77) (.t 78)⟩,
          ⟨some 80, none, .pick (.t 76) (.t 79) (.c (.bool false))⟩,
          ⟨some 81, none, .mov (.t 80)⟩,
          ⟨some 82, some (81, true), .load 2 true (.t 2)⟩,
          ⟨some 83, some (81, true), .load 2 true (.t 3)⟩,
          ⟨some 84, some (81, true), .call false 24 [(.t 82), (.t 83)]⟩,
          ⟨some 85, some (81, true), .load 2 true (.t 2)⟩,
          ⟨some 86, some (81, true), .load 2 true (.t 3)⟩,
          ⟨some 87, some (81, true), .call false 25 [(.t 85), (.t 86)]⟩,
          ⟨some 88, some (81, true), .bin .eql (.t 84) (.t 87)⟩,
          ⟨some 89, none, .pick (.t 81) (.t 88) (.c (.bool false))⟩,
          ⟨some 90, none, .mov (.t 89)⟩,
          ⟨some 91, some (90, true), .call false 14 []⟩,
          ⟨some 92, none, .pick (.t 90) (.t 91) (.c (.bool false))⟩,
          ⟨some 4, none, .mov (.t 92)⟩])
         .ret)))))))), none⟩
def k5 : List (List Nat) := []
def o5 : List Nat := [3000000]
/-- tracebook/tracebooklaw02.FracField -/
def c6 : AFn := ⟨3, 162, [.t 6],
 (.seq
  (.reg [⟨some 3, none, .box (.t 0)⟩,
   ⟨some 4, none, .box (.t 1)⟩,
   ⟨some 5, none, .box (.t 2)⟩,
   ⟨some 6, none, .mov (.c (.bool false))⟩])
  (.seq
   (.reg [⟨some 30, none, .load 2 true (.t 3)⟩,
    ⟨some 31, none, .load 2 true (.t 4)⟩,
    ⟨some 32, none, .call false 18 [(.t 30), (.t 31)]⟩,
    ⟨some 29, none, .mov (.t 32)⟩,
    ⟨some 33, none, .ext (.t 29) 0⟩,
    ⟨some 34, none, .ext (.t 29) 1⟩,
    ⟨some 7, none, .alloc [(.int .i64 0), (.int .i64 0)]⟩,
    ⟨none, none, .store 2 (.t 7) (.t 33)⟩,
    ⟨some 8, none, .mov (.t 34)⟩])
   (.seq
    (.reg [⟨some 36, none, .load 2 true (.t 4)⟩,
     ⟨some 37, none, .load 2 true (.t 3)⟩,
     ⟨some 38, none, .call false 18 [(.t 36), (.t 37)]⟩,
     ⟨some 35, none, .mov (.t 38)⟩,
     ⟨some 39, none, .ext (.t 35) 0⟩,
     ⟨some 40, none, .ext (.t 35) 1⟩,
     ⟨some 9, none, .alloc [(.int .i64 0), (.int .i64 0)]⟩,
     ⟨none, none, .store 2 (.t 9) (.t 39)⟩,
     ⟨some 10, none, .mov (.t 40)⟩])
    (.seq
     (.reg [⟨some 42, none, .load 2 true (.t 3)⟩,
      ⟨some 43, none, .load 2 true (.t 4)⟩,
      ⟨some 44, none, .call false 22 [(.t 42), (.t 43)]⟩,
      ⟨some 41, none, .mov (.t 44)⟩,
      ⟨some 45, none, .ext (.t 41) 0⟩,
      ⟨some 46, none, .ext (.t 41) 1⟩,
      ⟨some 11, none, .alloc [(.int .i64 0), (.int .i64 0)]⟩,
      ⟨none, none, .store 2 (.t 11) (.t 45)⟩,
      ⟨some 12, none, .mov (.t 46)⟩])
     (.seq
      (.reg [⟨some 48, none, .load 2 true (.t 4)⟩,
       ⟨some 49, none, .load 2 true (.t 3)⟩,
       ⟨some 50, none, .call false 22 [(.t 48), (.t 49)]⟩,
       ⟨some 47, none, .mov (.t 50)⟩,
       ⟨some 51, none, .ext (.t 47) 0⟩,
       ⟨some 52, none, .ext (.t 47) 1⟩,
       ⟨some 13, none, .alloc [(.int .i64 0), (.int .i64 0)]⟩,
       ⟨none, none, .store 2 (.t 13) (.t 51)⟩,
       ⟨some 14, none, .mov (.t 52)⟩])
      (.seq
       (.seq
        (.reg [⟨some 53, none, .load 2 true (.t 7)⟩,
         ⟨some 54, none, .load 2 true (.t 9)⟩,
         ⟨some 55, none, .beqA true [.i, .i] (.t 53) (.t 54)⟩,
         ⟨some 56, none, .mov (.t 55)⟩,
         ⟨some 57, some (56, false), .mov (.t 8)⟩,
         ⟨some 58, some (56, false), .mov (.t 10)⟩,
         ⟨some 59, some (56, false), .beq true (.t 57) (.t 58)⟩,
         ⟨some 60, none, .pick (.t 56) (.c (.bool true)) (.t 59)⟩,
         ⟨some 61, none, .mov (.t 60)⟩,
         ⟨some 62, some (61, false), .load 2 true (.t 11)⟩,
         ⟨some 63, some (61, false), .load 2 true (.t 13)⟩,
         ⟨some 64, some (61, false), .beqA true [.i, .i] (.t 62) (.t 63)⟩,
         ⟨some 65, none, .pick (.t 61) (.c (.bool true)) (.t 64)⟩,
         ⟨some 66, none, .mov (.t 65)⟩,
         ⟨some 67, some (66, false), .mov (.t 12)⟩,
         ⟨some 68, some (66, false), .mov (.t 14)⟩,
         ⟨some 69, some (66, false), .beq true (.t 67) (.t 68)⟩,
         ⟨some 70, none, .pick (.t 66) (.c (.bool true)) (.t 69)⟩])
        (.cond (.t 70)
         (.seq
          (.reg [⟨some 6, none, .mov (.c (.bool false))⟩])
          .ret)
         .skip))
       (.seq
        (.seq
         (.reg [⟨some 71, none, .mov (.t 8)⟩])
         (.cond (.t 71)
          (.seq
           (.reg [⟨some 73, none, .load 2 true (.t 7)⟩,
            ⟨some 74, none, .load 2 true (.t 4)⟩,
            ⟨some 75, none, .call false 20 [(.t 73), (.t 74)]⟩,
            ⟨some 72, none, .mov (.t 75)⟩,
            ⟨some 76, none, .ext (.t 72) 0⟩,
            ⟨some 77, none, .ext (.t 72) 1⟩,
            ⟨some 15, none, .alloc [(.int .i64 0), (.int .i64 0)]⟩,
            ⟨none, none, .store 2 (.t 15) (.t 76)⟩,
            ⟨some 16, none, .mov (.t 77)⟩])
           (.seq
            (.reg [⟨some 78, none, .load 2 true (.t 15)⟩,
             ⟨some 79, none, .load 2 true (.t 3)⟩,
             ⟨some 80, none, .beqA true [.i, .i] (.t 78) (.t 79)⟩,
             ⟨some 81, none, .mov (.t 80)⟩,
             ⟨some 82, some (81, false), .mov (.t 16)⟩,
             ⟨some 83, some (81, false), .un .not (.t 82)⟩,
             ⟨some 84, none, .pick (.t 81) (.c (.bool true)) (.t 83)⟩])
            (.cond (.t 84)
             (.seq
              (.reg [⟨some 6, none, .mov (.c (.bool false))⟩])
              .ret)
             .skip)))
          .skip))
        (.seq
         (.reg [⟨some 86, none, .load 2 true (.t 4)⟩,
          ⟨some 87, none, .load 2 true (.t 5)⟩,
          ⟨some 88, none, .call false 18 [(.t 86), (.t 87)]⟩,
          ⟨some 85, none, .mov (.t 88)⟩,
          ⟨some 89, none, .ext (.t 85) 0⟩,
          ⟨some 90, none, .ext (.t 85) 1⟩,
          ⟨some 17, none, .alloc [(.int .i64 0), (.int .i64 0)]⟩,
          ⟨none, none, .store 2 (.t 17) (.t 89)⟩,
          ⟨some 18, none, .mov (.t 90)⟩])
         (.seq
          (.reg [⟨some 92, none, .load 2 true (.t 7)⟩,
           ⟨some 93, none, .load 2 true (.t 5)⟩,
           ⟨some 94, none, .call false 18 [(.t 92), (.t 93)]⟩,
           ⟨some 91, none, .mov (.t 94)⟩,
           ⟨some 95, none, .ext (.t 91) 0⟩,
           ⟨some 96, none, .ext (.t 91) 1⟩,
           ⟨some 19, none, .alloc [(.int .i64 0), (.int .i64 0)]⟩,
           ⟨none, none, .store 2 (.t 19) (.t 95)⟩,
           ⟨some 20, none, .mov (.t 96)⟩])
          (.seq
           (.reg [⟨some 98, none, .load 2 true (.t 3)⟩,
            ⟨some 99, none, .load 2 true (.t 17)⟩,
            ⟨some 100, none, .call false 18 [(.t 98), (.t 99)]⟩,
            ⟨some 97, none, .mov (.t 100)⟩,
            ⟨some 101, none, .ext (.t 97) 0⟩,
            ⟨some 102, none, .ext (.t 97) 1⟩,
            ⟨some 21, none, .alloc [(.int .i64 0), (.int .i64 0)]⟩,
            ⟨none, none, .store 2 (.t 21) (.t 101)⟩,
            ⟨some 22, none, .mov (.t 102)⟩])
           (.seq
            (.seq
             (.reg [⟨some 103, none, .mov (.t 8)⟩,
              ⟨some 104, none, .mov (.t 103)⟩,
              ⟨some 105, some (104, true), .mov (.t 18)⟩,
              ⟨some 106, none, .pick (.t 104) (.t 105) (.c (.bool false))⟩,
              ⟨some 107, none, .mov (.t 106)⟩,
              ⟨some 108, some (107, true), .mov (.t 20)⟩,
              ⟨some 109, none, .pick (.t 107) (.t 108) (.c (.bool false))⟩,
              ⟨some 110, none, .mov (.t 109)⟩,
              ⟨some 111, some (110, true), .mov (.t 22)⟩,
              ⟨some 112, none, .pick (.t 110) (.t 111) (.c (.bool false))⟩,
              ⟨some 113, none, .mov (.t 112)⟩,
              ⟨some 114, some (113, true), .load 2 true (.t 19)⟩,
              ⟨some 115, some (113, true), .load 2 true (.t 21)⟩,
              ⟨some 116, some (113, true), .beqA true [.i, .i] (.t 114) (.t 115)⟩,
              ⟨some 117, none, .pick (.t 113) (.t 116) (.c (.bool false))⟩])
             (.cond (.t 117)
              (.seq
               (.reg [⟨some 6, none, .mov (.c (.bool false))⟩])
               .ret)
              .skip))
            (.seq
             (.reg [⟨some 119, none, .load 2 true (.t 3)⟩,
              ⟨some 120, none, .load 2 true (.t 5)⟩,
              ⟨some 121, none, .call false 22 [(.t 119), (.t 120)]⟩,
              ⟨some 118, none, .mov (.t 121)⟩,
              ⟨some 122, none, .ext (.t 118) 0⟩,
              ⟨some 123, none, .ext (.t 118) 1⟩,
              ⟨some 23, none, .alloc [(.int .i64 0), (.int .i64 0)]⟩,
              ⟨none, none, .store 2 (.t 23) (.t 122)⟩,
              ⟨some 24, none, .mov (.t 123)⟩])
             (.seq
              (.reg [⟨some 125, none, .load 2 true (.t 3)⟩,
               ⟨some 126, none, .load 2 true (.t 17)⟩,
               ⟨some 127, none, .call false 22 [(.t 125), (.t 126)]⟩,
               ⟨some 124, none, .mov (.t 127)⟩,
               ⟨some 128, none, .ext (.t 124) 0⟩,
               ⟨some 129, none, .ext (.t 124) 1⟩,
               ⟨some 25, none, .alloc [(.int .i64 0), (.int .i64 0)]⟩,
               ⟨none, none, .store 2 (.t 25) (.t 128)⟩,
               ⟨some 26, none, .mov (.t 129)⟩])
              (.seq
               (.reg [⟨some 131, none, .load 2 true (.t 11)⟩,
                ⟨some 132, none, .load 2 true (.t 23)⟩,
                ⟨some 133, none, .call false 18 [(.t 131), (.t 132)]⟩,
                ⟨some 130, none, .mov (.t 133)⟩,
                ⟨some 134, none, .ext (.t 130) 0⟩,
                ⟨some 135, none, .ext (.t 130) 1⟩,
                ⟨some 27, none, .alloc [(.int .i64 0), (.int .i64 0)]⟩,
                ⟨none, none, .store 2 (.t 27) (.t 134)⟩,
                ⟨some 28, none, .mov (.t 135)⟩])
               (.seq
                (.reg [⟨some 136, none, .mov (.t 18)⟩,
                 ⟨some 137, none, .un .not (.t 136)⟩,
                 ⟨some 138, none, .mov (.t 137)⟩,
                 ⟨some 139, some (138, false), .mov (.t 12)⟩,
                 ⟨some 140, some (138, false), .un .not (.t 139)⟩,
                 ⟨some 141, none, .pick (.t 138) (.c (.bool true)) (.t 140)⟩,
                 ⟨some 142, none, .mov (.t 141)⟩,
                 ⟨some 143, some (142, false), .mov (.t 24)⟩,
                 ⟨some 144, some (142, false), .un .not (.t 143)⟩,
                 ⟨some 145, none, .pick (.t 142) (.c (.bool true)) (.t 144)⟩,
                 ⟨some 146, none, .mov (.t 145)⟩,
                 ⟨some 147, some (146, false), .mov (.t 26)⟩,
                 ⟨some 148, some (146, false), .un .not (.t 147)⟩,
                 ⟨some 149, none, .pick (.t 146) (.c (.bool true)) (.t 148)⟩,
                 ⟨some 150, none, .mov (.t 149)⟩,
                 ⟨some 151, some (150, false), .mov (.t 28)⟩,
                 ⟨some 152, some (150, false), .un .not (.t 151)⟩,
                 ⟨some 153, none, .pick (.t 150) (.c (.bool true)) (.t 152)⟩,
                 ⟨some 154, none, .mov (.t 153)⟩,
                 ⟨some 155, some (154, false), .load 2 true (.t 25)⟩,
                 ⟨some 156, some (154, false), .load 2 true (.t 27)⟩,
                 ⟨some 157, some (154, false), .beqA false [.i, .i] (.t 155) (.t 156)⟩,
                 ⟨some 158, none, .pick (.t 154) (.c (.bool true)) (.t 157)⟩,
                 ⟨some 159, none, .mov (.t 158)⟩,
                 ⟨some 160, some (159, true), .call false 14 []⟩,
                 ⟨some 161, none, .pick (.t 159) (.t 160) (.c (.bool false))⟩,
                 ⟨some 6, none, .mov (.t 161)⟩])
                .ret))))))))))))))), none⟩
def k6 : List (List Nat) := []
def o6 : List Nat := [3000000]
/-- tracebook/tracebooklaw02.FracOrders -/
def c7 : AFn := ⟨3, 75, [.t 6],
 (.seq
  (.reg [⟨some 3, none, .box (.t 0)⟩,
   ⟨some 4, none, .box (.t 1)⟩,
   ⟨some 5, none, .box (.t 2)⟩,
   ⟨some 6, none, .mov (.c (.bool false))⟩])
  (.seq
   (.seq
    (.reg [⟨some 9, none, .load 2 true (.t 3)⟩,
     ⟨some 10, none, .load 2 true (.t 3)⟩,
     ⟨some 11, none, .call false 24 [(.t 9), (.t 10)]⟩,
     ⟨some 12, none, .bin .neq (.t 11) (.c (.int .i64 0))⟩,
     ⟨some 13, none, .mov (.t 12)⟩,
     ⟨some 14, some (13, false), .load 2 true (.t 3)⟩,
     ⟨some 15, some (13, false), .load 2 true (.t 4)⟩,
     ⟨some 16, some (13, false), .call false 24 [(.t 14), (.t 15)]⟩,
     ⟨some 17, some (13, false), .load 2 true (.t 4)⟩,
     ⟨some 18, some (13, false), .load 2 true (.t 3)⟩,
     ⟨some 19, some (13, false), .call false 24 [(.t 17), (.t 18)]⟩,
     ⟨some 20, some (13, false), .un .neg (.t 19)⟩,
     ⟨some 21, some (13, false), .bin .neq (.t 16) (.t 20)⟩,
     ⟨some 22, none, .pick (.t 13) (.c (.bool true)) (.t 21)⟩])
    (.cond (.t 22)
     (.seq
      (.reg [⟨some 6, none, .mov (.c (.bool false))⟩])
      .ret)
     .skip))
   (.seq
    (.seq
     (.reg [⟨some 23, none, .load 2 true (.t 3)⟩,
      ⟨some 24, none, .load 2 true (.t 4)⟩,
      ⟨some 25, none, .call false 24 [(.t 23), (.t 24)]⟩,
      ⟨some 26, none, .bin .leq (.t 25) (.c (.int .i64 0))⟩,
      ⟨some 27, none, .mov (.t 26)⟩,
      ⟨some 28, some (27, true), .load 2 true (.t 4)⟩,
      ⟨some 29, some (27, true), .load 2 true (.t 5)⟩,
      ⟨some 30, some (27, true), .call false 24 [(.t 28), (.t 29)]⟩,
      ⟨some 31, some (27, true), .bin .leq (.t 30) (.c (.int .i64 0))⟩,
      ⟨some 32, none, .pick (.t 27) (.t 31) (.c (.bool false))⟩,
      ⟨some 33, none, .mov (.t 32)⟩,
      ⟨some 34, some (33, true), .load 2 true (.t 3)⟩,
      ⟨some 35, some (33, true), .load 2 true (.t 5)⟩,
      ⟨some 36, some (33, true), .call false 24 [(.t 34), (.t 35)]⟩,
      ⟨some 37, some (33, true), .bin .gtr (.t 36) (.c (.int .i64 0))⟩,
      ⟨some 38, none, .pick (.t 33) (.t 37) (.c (.bool false))⟩])
     (.cond (.t 38)
      (.seq
       (.reg [⟨some 6, none, .mov (.c (.bool false))⟩])
       .ret)
      .skip))
    (.seq
     (.seq
      (.reg [⟨some 39, none, .load 2 true (.t 3)⟩,
       ⟨some 40, none, .call false 13 [(.t 39)]⟩,
       ⟨some 41, none, .mov (.t 40)⟩,
       ⟨some 42, some (41, true), .load 2 true (.t 4)⟩,
       ⟨some 43, some (41, true), .call false 13 [(.t 42)]⟩,
       ⟨some 44, none, .pick (.t 41) (.t 43) (.c (.bool false))⟩,
       ⟨some 45, none, .mov (.t 44)⟩,
       ⟨some 46, some (45, true), .load 2 true (.t 3)⟩,
       ⟨some 47, some (45, true), .load 2 true (.t 4)⟩,
       ⟨some 48, some (45, true), .call false 24 [(.t 46), (.t 47)]⟩,
       ⟨some 49, some (45, true), .bin .eql (.t 48) (.c (.int .i64 0))⟩,
       ⟨some 50, some (45, true), .load 2 true (.t 3)⟩,
       ⟨some 51, some (45, true), .load 2 true (.t 4)⟩,
       ⟨some 52, some (45, true), .beqA false [.i, .i] (.t 50) (.t 51)⟩,
       ⟨some 53, some (45, true), .beq true (.t 49) (.t 52)⟩,
       ⟨some 54, none, .pick (.t 45) (.t 53) (.c (.bool false))⟩])
      (.cond (.t 54)
       (.seq
        (.reg [⟨some 6, none, .mov (.c (.bool false))⟩])
        .ret)
       .skip))
     (.seq
      (.reg [⟨some 56, none, .load 2 true (.t 3)⟩,
       ⟨some 57, none, .load 2 true (.t 4)⟩,
       ⟨some 58, none, .call false 20 [(.t 56), (.t 57)]⟩,
       ⟨some 55, none, .mov (.t 58)⟩,
       ⟨some 59, none, .ext (.t 55) 0⟩,
       ⟨some 60, none, .ext (.t 55) 1⟩,
       ⟨some 7, none, .alloc [(.int .i64 0), (.int .i64 0)]⟩,
       ⟨none, none, .store 2 (.t 7) (.t 59)⟩,
       ⟨some 8, none, .mov (.t 60)⟩])
      (.seq
       (.reg [⟨some 61, none, .mov (.t 8)⟩,
        ⟨some 62, none, .un .not (.t 61)⟩,
        ⟨some 63, none, .mov (.t 62)⟩,
        ⟨some 64, some (63, false), .load 2 true (.t 3)⟩,
        ⟨some 65, some (63, false), .load 2 true (.t 4)⟩,
        ⟨some 66, some (63, false), .call false 24 [(.t 64), (.t 65)]⟩,
        ⟨some 67, some (63, false), .faddr 0 (.t 7)⟩,
        ⟨some 68, some (63, false), .load 1 false (.t 67)⟩,
        ⟨some 69, some (63, false), .call false 26 [(.t 68)]⟩,
        ⟨some 70, some (63, false), .bin .eql (.t 66) (.t 69)⟩,
        ⟨some 71, none, .pick (.t 63) (.c (.bool true)) (.t 70)⟩,
        ⟨some 72, none, .mov (.t 71)⟩,
        ⟨some 73, some (72, true), .call false 14 []⟩,
        ⟨some 74, none, .pick (.t 72) (.t 73) (.c (.bool false))⟩,
        ⟨some 6, none, .mov (.t 74)⟩])
       .ret)))))), none⟩
def k7 : List (List Nat) := []
def o7 : List Nat := [3000000]
/-- tracebook/tracebooklaw02.FracSums -/
def c8 : AFn := ⟨1, 50, [.t 2],
 (.seq
  (.reg [⟨some 2, none, .mov (.c (.bool false))⟩])
  (.seq
   (.seq
    (.reg [⟨some 9, none, .mov (.t 0)⟩,
     ⟨some 10, none, .len (.t 9)⟩,
     ⟨some 11, none, .bin .gtr (.t 10) (.c (.int .i64 200))⟩])
    (.cond (.t 11)
     (.seq
      (.reg [⟨some 12, none, .call false 14 []⟩,
       ⟨some 2, none, .mov (.t 12)⟩])
      .ret)
     .skip))
   (.seq
    (.reg [⟨some 14, none, .mov (.t 0)⟩,
     ⟨some 15, none, .call false 27 [(.t 14)]⟩,
     ⟨some 13, none, .mov (.t 15)⟩,
     ⟨some 16, none, .ext (.t 13) 0⟩,
     ⟨some 17, none, .ext (.t 13) 1⟩,
     ⟨some 3, none, .alloc [(.int .i64 0), (.int .i64 0)]⟩,
     ⟨none, none, .store 2 (.t 3) (.t 16)⟩,
     ⟨some 4, none, .mov (.t 17)⟩])
    (.seq
     (.reg [⟨some 19, none, .mov (.t 0)⟩,
      ⟨some 20, none, .call false 28 [(.t 19)]⟩,
      ⟨some 18, none, .mov (.t 20)⟩,
      ⟨some 21, none, .ext (.t 18) 0⟩,
      ⟨some 22, none, .ext (.t 18) 1⟩,
      ⟨some 5, none, .alloc [(.int .i64 0), (.int .i64 0)]⟩,
      ⟨none, none, .store 2 (.t 5) (.t 21)⟩,
      ⟨some 6, none, .mov (.t 22)⟩])
     (.seq
      (.reg [⟨some 24, none, .mov (.t 0)⟩,
       ⟨some 25, none, .call false 29 [(.t 24)]⟩,
       ⟨some 26, none, .call false 27 [(.t 25)]⟩,
       ⟨some 23, none, .mov (.t 26)⟩,
       ⟨some 27, none, .ext (.t 23) 0⟩,
       ⟨some 28, none, .ext (.t 23) 1⟩,
       ⟨some 7, none, .alloc [(.int .i64 0), (.int .i64 0)]⟩,
       ⟨none, none, .store 2 (.t 7) (.t 27)⟩,
       ⟨some 8, none, .mov (.t 28)⟩])
      (.seq
       (.reg [⟨some 29, none, .load 2 true (.t 3)⟩,
        ⟨some 30, none, .load 2 true (.t 5)⟩,
        ⟨some 31, none, .beqA false [.i, .i] (.t 29) (.t 30)⟩,
        ⟨some 32, none, .mov (.t 31)⟩,
        ⟨some 33, some (32, true), .mov (.t 4)⟩,
        ⟨some 34, some (32, true), .mov (.t 6)⟩,
        ⟨some 35, some (32, true), .beq false (.t 33) (.t 34)⟩,
        ⟨some 36, none, .pick (.t 32) (.t 35) (.c (.bool false))⟩,
        ⟨some 37, none, .mov (.t 36)⟩,
        ⟨some 38, some (37, true), .load 2 true (.t 7)⟩,
        ⟨some 39, some (37, true), .load 2 true (.t 3)⟩,
        ⟨some 40, some (37, true), .beqA false [.i, .i] (.t 38) (.t 39)⟩,
        ⟨some 41, none, .pick (.t 37) (.t 40) (.c (.bool false))⟩,
        ⟨some 42, none, .mov (.t 41)⟩,
        ⟨some 43, some (42, true), .mov (.t 8)⟩,
        ⟨some 44, some (42, true), .mov (.t 4)⟩,
        ⟨some 45, some (42, true), .beq false (.t 43) (.t 44)⟩,
        ⟨some 46, none, .pick (.t 42) (.t 45) (.c (.bool false))⟩,
        ⟨some 47, none, .mov (.t 46)⟩,
        ⟨some 48, some (47, true), .call false 14 []⟩,
        ⟨some 49, none, .pick (.t 47) (.t 48) (.c (.bool false))⟩,
        ⟨some 2, none, .mov (.t 49)⟩])
       .ret)))))), none⟩
def k8 : List (List Nat) := []
def o8 : List Nat := [3000000]
def c9b0 : AC := (.seq
           (.seq
            (.reg [⟨some 33, none, .mov (.t 6)⟩,
             ⟨some 34, none, .mov (.t 0)⟩,
             ⟨some 35, none, .len (.t 34)⟩,
             ⟨some 36, none, .bin .lss (.t 33) (.t 35)⟩])
            (.cond (.t 36)
             .skip
             (.exit 0)))
           (.seq
            (.block 1
             (.reg [⟨some 39, none, .mov (.t 5)⟩,
              ⟨some 40, none, .mov (.t 0)⟩,
              ⟨some 41, none, .mov (.t 6)⟩,
              ⟨some 42, none, .iaddr (.slice 2) (.t 40) (.t 41)⟩,
              ⟨some 43, none, .faddr 0 (.t 42)⟩,
              ⟨some 44, none, .load 1 false (.t 43)⟩,
              ⟨some 45, none, .un .neg (.t 44)⟩,
              ⟨some 46, none, .mov (.t 0)⟩,
              ⟨some 47, none, .mov (.t 6)⟩,
              ⟨some 48, none, .iaddr (.slice 2) (.t 46) (.t 47)⟩,
              ⟨some 49, none, .faddr 1 (.t 48)⟩,
              ⟨some 50, none, .load 1 false (.t 49)⟩,
              ⟨some 51, none, .call false 30 [(.t 45), (.t 50)]⟩,
              ⟨some 52, none, .bslice false 2 [(.int .i64 0), (.int .i64 0)] 1 [(0, (.t 51))]⟩,
              ⟨some 53, none, .append 2 16 (.t 39) (.t 52)⟩,
              ⟨some 5, none, .mov (.t 53)⟩]))
            (.reg [⟨some 37, none, .mov (.t 6)⟩,
             ⟨some 38, none, .bin .add (.t 37) (.c (.int .i64 1))⟩,
             ⟨some 6, none, .mov (.t 38)⟩])))
def c9r0 : AC := (.seq
        (.reg [⟨some 55, none, .mov (.t 5)⟩,
         ⟨some 56, none, .call false 27 [(.t 55)]⟩,
         ⟨some 54, none, .mov (.t 56)⟩,
         ⟨some 57, none, .ext (.t 54) 0⟩,
         ⟨some 58, none, .ext (.t 54) 1⟩,
         ⟨some 7, none, .alloc [(.int .i64 0), (.int .i64 0)]⟩,
         ⟨none, none, .store 2 (.t 7) (.t 57)⟩,
         ⟨some 8, none, .mov (.t 58)⟩])
        (.seq
         (.seq
          (.reg [⟨some 59, none, .load 2 true (.t 7)⟩,
           ⟨some 60, none, .call false 30 [(.c (.int .i64 0)), (.c (.int .i64 1))]⟩,
           ⟨some 61, none, .beqA true [.i, .i] (.t 59) (.t 60)⟩,
           ⟨some 62, none, .mov (.t 61)⟩,
           ⟨some 63, some (62, false), .mov (.t 8)⟩,
           ⟨some 64, some (62, false), .un .not (.t 63)⟩,
           ⟨some 65, none, .pick (.t 62) (.c (.bool true)) (.t 64)⟩])
          (.cond (.t 65)
           (.seq
            (.reg [⟨some 2, none, .mov (.c (.bool false))⟩])
            .ret)
           .skip))
         (.seq
          (.reg [⟨some 67, none, .mov (.t 0)⟩,
           ⟨some 68, none, .slc (.slice 2) (.t 67) (some (.c (.int .i64 1))) none none⟩,
           ⟨some 69, none, .call false 27 [(.t 68)]⟩,
           ⟨some 66, none, .mov (.t 69)⟩,
           ⟨some 70, none, .ext (.t 66) 0⟩,
           ⟨some 71, none, .ext (.t 66) 1⟩,
           ⟨some 9, none, .alloc [(.int .i64 0), (.int .i64 0)]⟩,
           ⟨none, none, .store 2 (.t 9) (.t 70)⟩,
           ⟨some 10, none, .mov (.t 71)⟩])
          (.seq
           (.reg [⟨some 73, none, .load 2 true (.t 3)⟩,
            ⟨some 74, none, .mov (.t 0)⟩,
            ⟨some 75, none, .iaddr (.slice 2) (.t 74) (.c (.int .i64 0))⟩,
            ⟨some 76, none, .load 2 true (.t 75)⟩,
            ⟨some 77, none, .call false 20 [(.t 73), (.t 76)]⟩,
            ⟨some 72, none, .mov (.t 77)⟩,
            ⟨some 78, none, .ext (.t 72) 0⟩,
            ⟨some 79, none, .ext (.t 72) 1⟩,
            ⟨some 11, none, .alloc [(.int .i64 0), (.int .i64 0)]⟩,
            ⟨none, none, .store 2 (.t 11) (.t 78)⟩,
            ⟨some 12, none, .mov (.t 79)⟩])
           (.seq
            (.reg [⟨some 80, none, .mov (.t 10)⟩,
             ⟨some 81, none, .mov (.t 12)⟩,
             ⟨some 82, none, .beq false (.t 80) (.t 81)⟩,
             ⟨some 83, none, .mov (.t 82)⟩,
             ⟨some 84, some (83, true), .load 2 true (.t 9)⟩,
             ⟨some 85, some (83, true), .load 2 true (.t 11)⟩,
             ⟨some 86, some (83, true), .beqA false [.i, .i] (.t 84) (.t 85)⟩,
             ⟨some 87, none, .pick (.t 83) (.t 86) (.c (.bool false))⟩,
             ⟨some 88, none, .mov (.t 87)⟩,
             ⟨some 89, some (88, true), .call false 14 []⟩,
             ⟨some 90, none, .pick (.t 88) (.t 89) (.c (.bool false))⟩,
             ⟨some 2, none, .mov (.t 90)⟩])
            .ret)))))
/-- tracebook/tracebooklaw02.FracCancels -/
def c9 : AFn := ⟨1, 91, [.t 2],
 (.seq
  (.reg [⟨some 2, none, .mov (.c (.bool false))⟩])
  (.seq
   (.seq
    (.reg [⟨some 13, none, .mov (.t 0)⟩,
     ⟨some 14, none, .len (.t 13)⟩,
     ⟨some 15, none, .bin .gtr (.t 14) (.c (.int .i64 200))⟩])
    (.cond (.t 15)
     (.seq
      (.reg [⟨some 16, none, .call false 14 []⟩,
       ⟨some 2, none, .mov (.t 16)⟩])
      .ret)
     .skip))
   (.seq
    (.reg [⟨some 18, none, .mov (.t 0)⟩,
     ⟨some 19, none, .call false 27 [(.t 18)]⟩,
     ⟨some 17, none, .mov (.t 19)⟩,
     ⟨some 20, none, .ext (.t 17) 0⟩,
     ⟨some 21, none, .ext (.t 17) 1⟩,
     ⟨some 3, none, .alloc [(.int .i64 0), (.int .i64 0)]⟩,
     ⟨none, none, .store 2 (.t 3) (.t 20)⟩,
     ⟨some 4, none, .mov (.t 21)⟩])
    (.seq
     (.seq
      (.reg [⟨some 22, none, .mov (.t 4)⟩,
       ⟨some 23, none, .un .not (.t 22)⟩,
       ⟨some 24, none, .mov (.t 23)⟩,
       ⟨some 25, some (24, false), .mov (.t 0)⟩,
       ⟨some 26, some (24, false), .len (.t 25)⟩,
       ⟨some 27, some (24, false), .bin .eql (.t 26) (.c (.int .i64 0))⟩,
       ⟨some 28, none, .pick (.t 24) (.c (.bool true)) (.t 27)⟩])
      (.cond (.t 28)
       (.seq
        (.reg [⟨some 29, none, .call false 14 []⟩,
         ⟨some 2, none, .mov (.t 29)⟩])
        .ret)
       .skip))
     (.seq
      (.reg [⟨some 30, none, .bslice true 2 [(.int .i64 0), (.int .i64 0)] 0 []⟩,
       ⟨some 31, none, .mov (.t 0)⟩,
       ⟨some 32, none, .append 2 16 (.t 30) (.t 31)⟩,
       ⟨some 5, none, .mov (.t 32)⟩])
      (.seq
       (.seq
        (.reg [⟨some 6, none, .mov (.c (.int .i64 0))⟩])
        (.block 0
         (.loop [0, 3, 5, 6]
          c9b0)))
       c9r0)))))), none⟩
def k9 : List (List Nat) := [[0, 3, 5, 6]]
def o9 : List Nat := [3000000, 30]
def c10b0 : AC := (.seq
         (.seq
          (.reg [⟨some 14, none, .mov (.t 4)⟩,
           ⟨some 15, none, .mov (.t 0)⟩,
           ⟨some 16, none, .bin .lss (.t 14) (.t 15)⟩])
          (.cond (.t 16)
           .skip
           (.exit 0)))
         (.seq
          (.block 1
           (.reg [⟨some 19, none, .mov (.t 3)⟩,
            ⟨some 20, none, .call false 30 [(.c (.int .i64 1)), (.c (.int .i64 1))]⟩,
            ⟨some 21, none, .bslice false 2 [(.int .i64 0), (.int .i64 0)] 1 [(0, (.t 20))]⟩,
            ⟨some 22, none, .append 2 16 (.t 19) (.t 21)⟩,
            ⟨some 3, none, .mov (.t 22)⟩]))
          (.reg [⟨some 17, none, .mov (.t 4)⟩,
           ⟨some 18, none, .bin .add (.t 17) (.c (.int .i64 1))⟩,
           ⟨some 4, none, .mov (.t 18)⟩])))
def c10r0 : AC := (.seq
      (.reg [⟨some 24, none, .mov (.t 3)⟩,
       ⟨some 25, none, .call false 27 [(.t 24)]⟩,
       ⟨some 23, none, .mov (.t 25)⟩,
       ⟨some 26, none, .ext (.t 23) 0⟩,
       ⟨some 27, none, .ext (.t 23) 1⟩,
       ⟨some 5, none, .alloc [(.int .i64 0), (.int .i64 0)]⟩,
       ⟨none, none, .store 2 (.t 5) (.t 26)⟩,
       ⟨some 6, none, .mov (.t 27)⟩])
      (.seq
       (.seq
        (.reg [⟨some 28, none, .mov (.t 0)⟩,
         ⟨some 29, none, .bin .gtr (.t 28) (.c (.int .i64 20000))⟩])
        (.cond (.t 29)
         (.seq
          (.reg [⟨some 30, none, .load 2 true (.t 5)⟩,
           ⟨some 31, none, .call false 30 [(.c (.int .i64 0)), (.c (.int .i64 0))]⟩,
           ⟨some 32, none, .beqA false [.i, .i] (.t 30) (.t 31)⟩,
           ⟨some 33, none, .mov (.t 32)⟩,
           ⟨some 34, some (33, true), .mov (.t 6)⟩,
           ⟨some 35, some (33, true), .un .not (.t 34)⟩,
           ⟨some 36, none, .pick (.t 33) (.t 35) (.c (.bool false))⟩,
           ⟨some 37, none, .mov (.t 36)⟩,
           ⟨some 38, some (37, true), .call false 14 []⟩,
           ⟨some 39, none, .pick (.t 37) (.t 38) (.c (.bool false))⟩,
           ⟨some 2, none, .mov (.t 39)⟩])
          .ret)
         .skip))
       (.seq
        (.reg [⟨some 40, none, .load 2 true (.t 5)⟩,
         ⟨some 41, none, .mov (.t 0)⟩,
         ⟨some 42, none, .call false 30 [(.t 41), (.c (.int .i64 1))]⟩,
         ⟨some 43, none, .beqA false [.i, .i] (.t 40) (.t 42)⟩,
         ⟨some 44, none, .mov (.t 43)⟩,
         ⟨some 45, some (44, true), .mov (.t 6)⟩,
         ⟨some 46, none, .pick (.t 44) (.t 45) (.c (.bool false))⟩,
         ⟨some 47, none, .mov (.t 46)⟩,
         ⟨some 48, some (47, true), .call false 14 []⟩,
         ⟨some 49, none, .pick (.t 47) (.t 48) (.c (.bool false))⟩,
         ⟨some 2, none, .mov (.t 49)⟩])
        .ret)))
/-- tracebook/tracebooklaw02.FracLong -/
def c10 : AFn := ⟨1, 50, [.t 2],
 (.seq
  (.reg [⟨some 2, none, .mov (.c (.bool false))⟩])
  (.seq
   (.seq
    (.reg [⟨some 7, none, .mov (.t 0)⟩,
     ⟨some 8, none, .bin .lss (.t 7) (.c (.int .i64 0))⟩,
     ⟨some 9, none, .mov (.t 8)⟩,
     ⟨some 10, some (9, false), .mov (.t 0)⟩,
     ⟨some 11, some (9, false), .bin .gtr (.t 10) (.c (.int .i64 20100))⟩,
     ⟨some 12, none, .pick (.t 9) (.c (.bool true)) (.t 11)⟩])
    (.cond (.t 12)
     (.seq
      (.reg [⟨some 13, none, .call false 14 []⟩,
       ⟨some 2, none, .mov (.t 13)⟩])
      .ret)
     .skip))
   (.seq
    (.reg [⟨some 3, none, .nilv 2⟩])
    (.seq
     (.seq
      (.reg [⟨some 4, none, .mov (.c (.int .i64 0))⟩])
      (.block 0
       (.loop [0, 3, 4]
        c10b0)))
     c10r0)))), none⟩
def k10 : List (List Nat) := [[0, 3, 4]]
def o10 : List Nat := [3000000]
/-- tracebook/frac.Of -/
def c11 : AFn := ⟨2, 33, [.c 4 2 true, .t 5],
 (.seq
  (.reg [⟨some 4, none, .alloc [(.int .i64 0), (.int .i64 0)]⟩,
   ⟨some 5, none, .mov (.c (.bool false))⟩])
  (.seq
   (.seq
    (.reg [⟨some 9, none, .mov (.t 1)⟩,
     ⟨some 10, none, .bin .eql (.t 9) (.c (.int .i64 0))⟩])
    (.cond (.t 10)
     (.seq
      (.reg [⟨some 11, none, .build [(.int .i64 0), (.int .i64 0)] []⟩,
       ⟨none, none, .store 2 (.t 4) (.t 11)⟩,
       ⟨some 5, none, .mov (.c (.bool false))⟩])
      .ret)
     .skip))
   (.seq
    (.reg [⟨some 12, none, .mov (.t 0)⟩,
     ⟨some 13, none, .call false 31 [(.t 12)]⟩,
     ⟨some 14, none, .mov (.t 1)⟩,
     ⟨some 15, none, .call false 31 [(.t 14)]⟩,
     ⟨some 6, none, .mov (.t 13)⟩,
     ⟨some 7, none, .mov (.t 15)⟩])
    (.seq
     (.reg [⟨some 16, none, .mov (.t 6)⟩,
      ⟨some 17, none, .mov (.t 7)⟩,
      ⟨some 18, none, .call false 32 [(.t 16), (.t 17)]⟩,
      ⟨some 8, none, .mov (.t 18)⟩])
     (.seq
      (.reg [⟨some 19, none, .mov (.t 0)⟩,
       ⟨some 20, none, .bin .lss (.t 19) (.c (.int .i64 0))⟩,
       ⟨some 21, none, .mov (.t 1)⟩,
       ⟨some 22, none, .bin .lss (.t 21) (.c (.int .i64 0))⟩,
       ⟨some 23, none, .beq true (.t 20) (.t 22)⟩,
       ⟨some 24, none, .mov (.t 6)⟩,
       ⟨some 25, none, .mov (.t 8)⟩,
       ⟨some 26, none, .bin .quo (.t 24) (.t 25)⟩,
       ⟨some 27, none, .mov (.t 7)⟩,
       ⟨some 28, none, .mov (.t 8)⟩,
       ⟨some 29, none, .bin .quo (.t 27) (.t 28)⟩,
       ⟨some 30, none, .call false 33 [(.t 23), (.t 26), (.t 29)]⟩,
       ⟨some 31, none, .ext (.t 30) 0⟩,
       ⟨some 32, none, .ext (.t 30) 1⟩,
       ⟨none, none, .store 2 (.t 4) (.t 31)⟩,
       ⟨some 5, none, .mov (.t 32)⟩])
      .ret))))), none⟩
def k11 : List (List Nat) := []
def o11 : List Nat := [3000000]
/-- tracebook/tracebookref02.Of -/
def c12 : AFn := ⟨2, 24, [.c 4 2 true, .t 5],
 (.seq
  (.reg [⟨some 4, none, .alloc [(.int .i64 0), (.int .i64 0)]⟩,
   ⟨some 5, none, .mov (.c (.bool false))⟩])
  (.seq
   (.seq
    (.reg [⟨some 6, none, .mov (.t 1)⟩,
     ⟨some 7, none, .bin .eql (.t 6) (.c (.int .i64 0))⟩])
    (.cond (.t 7)
     (.seq
      (.reg [⟨some 8, none, .build [(.int .i64 0), (.int .i64 0)] []⟩,
       ⟨none, none, .store 2 (.t 4) (.t 8)⟩,
       ⟨some 5, none, .mov (.c (.bool false))⟩])
      .ret)
     .skip))
   (.seq
    (.reg [⟨some 9, none, .mov (.t 0)⟩,
     ⟨some 10, none, .bin .lss (.t 9) (.c (.int .i64 0))⟩,
     ⟨some 11, none, .mov (.t 1)⟩,
     ⟨some 12, none, .bin .lss (.t 11) (.c (.int .i64 0))⟩,
     ⟨some 13, none, .beq true (.t 10) (.t 12)⟩,
     ⟨some 14, none, .mov (.t 0)⟩,
     ⟨some 15, none, .call false 35 [(.t 14)]⟩,
     ⟨some 16, none, .build [(.int .u64 0), (.int .u64 0)] [(1, 1, (.t 15))]⟩,
     ⟨some 17, none, .build [(.bool false), (.int .u64 0), (.int .u64 0)] [(0, 1, (.t 13)), (1, 2, (.t 16))]⟩,
     ⟨some 18, none, .mov (.t 1)⟩,
     ⟨some 19, none, .call false 35 [(.t 18)]⟩,
     ⟨some 20, none, .build [(.int .u64 0), (.int .u64 0)] [(1, 1, (.t 19))]⟩,
     ⟨some 21, none, .call false 34 [(.t 17), (.t 20)]⟩,
     ⟨some 22, none, .ext (.t 21) 0⟩,
     ⟨some 23, none, .ext (.t 21) 1⟩,
     ⟨none, none, .store 2 (.t 4) (.t 22)⟩,
     ⟨some 5, none, .mov (.t 23)⟩])
    .ret))), none⟩
def k12 : List (List Nat) := []
def o12 : List Nat := [3000000]
/-- tracebook/frac.Valid -/
def c13 : AFn := ⟨1, 31, [.t 2],
 (.seq
  (.reg [⟨some 1, none, .box (.t 0)⟩,
   ⟨some 2, none, .mov (.c (.bool false))⟩])
  (.seq
   (.reg [⟨some 3, none, .faddr 1 (.t 1)⟩,
    ⟨some 4, none, .load 1 false (.t 3)⟩,
    ⟨some 5, none, .bin .leq (.c (.int .i64 1)) (.t 4)⟩,
    ⟨some 6, none, .mov (.t 5)⟩,
    ⟨some 7, some (6, true), .faddr 1 (.t 1)⟩,
    ⟨some 8, some (6, true), .load 1 false (.t 7)⟩,
    ⟨some 9, some (6, true), .bin .leq (.t 8) (.c (.int .i64 1000000000000000))⟩,
    ⟨some 10, none, .pick (.t 6) (.t 9) (.c (.bool false))⟩,
    ⟨some 11, none, .mov (.t 10)⟩,
    ⟨some 12, some (11, true), .faddr 0 (.t 1)⟩,
    ⟨some 13, some (11, true), .load 1 false (.t 12)⟩,
    ⟨some 14, some (11, true), .bin .leq (.c (.int .i64 (-4611686018427387904))) (.t 13)⟩,
    ⟨some 15, none, .pick (.t 11) (.t 14) (.c (.bool false))⟩,
    ⟨some 16, none, .mov (.t 15)⟩,
    ⟨some 17, some (16, true), .faddr 0 (.t 1)⟩,
    ⟨some 18, some (16, true), .load 1 false (.t 17)⟩,
    ⟨some 19, some (16, true), .bin .leq (.t 18) (.c (.int .i64 4611686018427387904))⟩,
    ⟨some 20, none, .pick (.t 16) (.t 19) (.c (.bool false))⟩,
    ⟨some 21, none, .mov (.t 20)⟩,
    ⟨some 22, some (21, true), .faddr 0 (.t 1)⟩,
    ⟨some 23, some (21, true), .load 1 false (.t 22)⟩,
    ⟨some 24, some (21, true), .call false 31 [(.t 23)]⟩,
    ⟨some 25, some (21, true), .faddr 1 (.t 1)⟩,
    ⟨some 26, some (21, true), .load 1 false (.t 25)⟩,
    ⟨some 27, some (21, true), .conv (.int .u64) (.t 26)⟩,
    ⟨some 28, some (21, true), .call false 32 [(.t 24), (.t 27)]⟩,
    ⟨some 29, some (21, true), .bin .eql (.t 28) (.c (.int .u64 1))⟩,
    ⟨some 30, none, .pick (.t 21) (.t 29) (.c (.bool false))⟩,
    ⟨some 2, none, .mov (.t 30)⟩])
   .ret)), none⟩
def k13 : List (List Nat) := []
def o13 : List Nat := [3000000]
/-- tracebook/tracebooklaw02.lives -/
def c14 : AFn := ⟨0, 67, [.t 0],
 (.seq
  (.reg [⟨some 0, none, .mov (.c (.bool false))⟩])
  (.seq
   (.reg [⟨some 8, none, .call false 11 [(.c (.int .i64 6)), (.c (.int .i64 (-4)))]⟩,
    ⟨some 7, none, .mov (.t 8)⟩,
    ⟨some 9, none, .ext (.t 7) 0⟩,
    ⟨some 10, none, .ext (.t 7) 1⟩,
    ⟨some 1, none, .alloc [(.int .i64 0), (.int .i64 0)]⟩,
    ⟨none, none, .store 2 (.t 1) (.t 9)⟩,
    ⟨some 2, none, .mov (.t 10)⟩])
   (.seq
    (.reg [⟨some 12, none, .call false 30 [(.c (.int .i64 1)), (.c (.int .i64 2))]⟩,
     ⟨some 13, none, .call false 30 [(.c (.int .i64 1)), (.c (.int .i64 3))]⟩,
     ⟨some 14, none, .call false 18 [(.t 12), (.t 13)]⟩,
     ⟨some 11, none, .mov (.t 14)⟩,
     ⟨some 15, none, .ext (.t 11) 0⟩,
     ⟨some 16, none, .ext (.t 11) 1⟩,
     ⟨some 3, none, .alloc [(.int .i64 0), (.int .i64 0)]⟩,
     ⟨none, none, .store 2 (.t 3) (.t 15)⟩,
     ⟨some 4, none, .mov (.t 16)⟩])
    (.seq
     (.reg [⟨some 18, none, .call false 30 [(.c (.int .i64 1)), (.c (.int .i64 3))]⟩,
      ⟨some 19, none, .call false 30 [(.c (.int .i64 1)), (.c (.int .i64 3))]⟩,
      ⟨some 20, none, .call false 30 [(.c (.int .i64 1)), (.c (.int .i64 3))]⟩,
      ⟨some 21, none, .bslice false 2 [(.int .i64 0), (.int .i64 0)] 3 [(0, (.t 18)), (1, (.t 19)), (2, (.t 20))]⟩,
      ⟨some 22, none, .call false 27 [(.t 21)]⟩,
      ⟨some 17, none, .mov (.t 22)⟩,
      ⟨some 23, none, .ext (.t 17) 0⟩,
      ⟨some 24, none, .ext (.t 17) 1⟩,
      ⟨some 5, none, .alloc [(.int .i64 0), (.int .i64 0)]⟩,
      ⟨none, none, .store 2 (.t 5) (.t 23)⟩,
      ⟨some 6, none, .mov (.t 24)⟩])
     (.seq
      (.reg [⟨some 25, none, .load 2 true (.t 1)⟩,
       ⟨some 26, none, .call false 30 [(.c (.int .i64 (-3))), (.c (.int .i64 2))]⟩,
       ⟨some 27, none, .beqA false [.i, .i] (.t 25) (.t 26)⟩,
       ⟨some 28, none, .mov (.t 27)⟩,
       ⟨some 29, some (28, true), .mov (.t 2)⟩,
       ⟨some 30, none, .pick (.t 28) (.t 29) (.c (.bool false))⟩,
       ⟨some 31, none, .mov (.t 30)⟩,
       ⟨some 32, some (31, true), .load 2 true (.t 3)⟩,
       ⟨some 33, some (31, true), .call false 30 [(.c (.int .i64 5)), (.c (.int .i64 6))]⟩,
       ⟨some 34, some (31, true), .beqA false [.i, .i] (.t 32) (.t 33)⟩,
       ⟨some 35, none, .pick (.t 31) (.t 34) (.c (.bool false))⟩,
       ⟨some 36, none, .mov (.t 35)⟩,
       ⟨some 37, some (36, true), .mov (.t 4)⟩,
       ⟨some 38, none, .pick (.t 36) (.t 37) (.c (.bool false))⟩,
       ⟨some 39, none, .mov (.t 38)⟩,
       ⟨some 40, some (39, true), .load 2 true (.t 5)⟩,
       ⟨some 41, some (39, true), .call false 30 [(.c (.int .i64 1)), (.c (.int .i64 1))]⟩,
       ⟨some 42, some (39, true), .beqA false [.i, .i] (.t 40) (.t 41)⟩,
       ⟨some 43, none, .pick (.t 39) (.t 42) (.c (.bool false))⟩,
       ⟨some 44, none, .mov (.t 43)⟩,
       ⟨some 45, some (44, true), .mov (.t 6)⟩,
       ⟨some 46, none, .pick (.t 44) (.t 45) (.c (.bool false))⟩,
       ⟨some 47, none, .mov (.t 46)⟩,
       ⟨some 48, some (47, true), .load 2 true (.t 1)⟩,
       ⟨some 49, some (47, true), .call false 16 [(.t 48)]⟩,
       ⟨some 50, some (47, true), .bin .eql (.t 49) (.c (.str [45, 51, 47, 50]))⟩,
       ⟨some 51, none, .pick (.t 47) (.t 50) (.c (.bool false))⟩,
       ⟨some 52, none, .mov (.t 51)⟩,
       ⟨some 53, some (52, true), .load 2 true (.t 1)⟩,
       ⟨some 54, some (52, true), .call false 13 [(.t 53)]⟩,
       ⟨some 55, none, .pick (.t 52) (.t 54) (.c (.bool false))⟩,
       ⟨some 56, none, .mov (.t 55)⟩,
       ⟨some 57, some (56, true), .call false 30 [(.c (.int .i64 2)), (.c (.int .i64 4))]⟩,
       ⟨some 58, some (56, true), .call false 13 [(.t 57)]⟩,
       ⟨some 59, some (56, true), .un .not (.t 58)⟩,
       ⟨some 60, none, .pick (.t 56) (.t 59) (.c (.bool false))⟩,
       ⟨some 61, none, .mov (.t 60)⟩,
       ⟨some 62, some (61, true), .call false 30 [(.c (.int .i64 1)), (.c (.int .i64 3))]⟩,
       ⟨some 63, some (61, true), .call false 30 [(.c (.int .i64 1)), (.c (.int .i64 2))]⟩,
       ⟨some 64, some (61, true), .call false 24 [(.t 62), (.t 63)]⟩,
       ⟨some 65, some (61, true), .bin .eql (.t 64) (.c (.int .i64 (-1)))⟩,
       ⟨some 66, none, .pick (.t 61) (.t 65) (.c (.bool false))⟩,
       ⟨some 0, none, .mov (.t 66)⟩])
      .ret))))), none⟩
def k14 : List (List Nat) := []
def o14 : List Nat := [3000000]
/-- tracebook/tracebookref02.Valid -/
def c15 : AFn := ⟨1, 32, [.t 2],
 (.seq
  (.reg [⟨some 1, none, .box (.t 0)⟩,
   ⟨some 2, none, .mov (.c (.bool false))⟩])
  (.seq
   (.seq
    (.reg [⟨some 3, none, .faddr 1 (.t 1)⟩,
     ⟨some 4, none, .load 1 false (.t 3)⟩,
     ⟨some 5, none, .bin .lss (.t 4) (.c (.int .i64 1))⟩,
     ⟨some 6, none, .mov (.t 5)⟩,
     ⟨some 7, some (6, false), .faddr 1 (.t 1)⟩,
     ⟨some 8, some (6, false), .load 1 false (.t 7)⟩,
     ⟨some 9, some (6, false), .bin .gtr (.t 8) (.c (.int .i64 1000000000000000))⟩,
     ⟨some 10, none, .pick (.t 6) (.c (.bool true)) (.t 9)⟩,
     ⟨some 11, none, .mov (.t 10)⟩,
     ⟨some 12, some (11, false), .faddr 0 (.t 1)⟩,
     ⟨some 13, some (11, false), .load 1 false (.t 12)⟩,
     ⟨some 14, some (11, false), .bin .lss (.t 13) (.c (.int .i64 (-4611686018427387904)))⟩,
     ⟨some 15, none, .pick (.t 11) (.c (.bool true)) (.t 14)⟩,
     ⟨some 16, none, .mov (.t 15)⟩,
     ⟨some 17, some (16, false), .faddr 0 (.t 1)⟩,
     ⟨some 18, some (16, false), .load 1 false (.t 17)⟩,
     ⟨some 19, some (16, false), .bin .gtr (.t 18) (.c (.int .i64 4611686018427387904))⟩,
     ⟨some 20, none, .pick (.t 16) (.c (.bool true)) (.t 19)⟩])
    (.cond (.t 20)
     (.seq
      (.reg [⟨some 2, none, .mov (.c (.bool false))⟩])
      .ret)
     .skip))
   (.seq
    (.reg [⟨some 21, none, .faddr 0 (.t 1)⟩,
     ⟨some 22, none, .load 1 false (.t 21)⟩,
     ⟨some 23, none, .call false 35 [(.t 22)]⟩,
     ⟨some 24, none, .build [(.int .u64 0), (.int .u64 0)] [(1, 1, (.t 23))]⟩,
     ⟨some 25, none, .faddr 1 (.t 1)⟩,
     ⟨some 26, none, .load 1 false (.t 25)⟩,
     ⟨some 27, none, .call false 35 [(.t 26)]⟩,
     ⟨some 28, none, .build [(.int .u64 0), (.int .u64 0)] [(1, 1, (.t 27))]⟩,
     ⟨some 29, none, .call false 36 [(.t 24), (.t 28)]⟩,
     ⟨some 30, none, .build [(.int .u64 0), (.int .u64 0)] [(1, 1, (.c (.int .u64 1)))]⟩,
     ⟨some 31, none, .beqA false [.i, .i] (.t 29) (.t 30)⟩,
     ⟨some 2, none, .mov (.t 31)⟩])
    .ret))), none⟩
def k15 : List (List Nat) := []
def o15 : List Nat := [3000000]
/-- tracebook/frac.Text -/
def c16 : AFn := ⟨1, 20, [.t 2],
 (.seq
  (.reg [⟨some 1, none, .box (.t 0)⟩,
   ⟨some 2, none, .mov (.c (.str []))⟩])
  (.seq
   (.seq
    (.reg [⟨some 3, none, .load 2 true (.t 1)⟩,
     ⟨some 4, none, .call false 13 [(.t 3)]⟩,
     ⟨some 5, none, .un .not (.t 4)⟩])
    (.cond (.t 5)
     (.seq
      (.reg [⟨some 2, none, .mov (.c (.str []))⟩])
      .ret)
     .skip))
   (.seq
    (.seq
     (.reg [⟨some 6, none, .faddr 1 (.t 1)⟩,
      ⟨some 7, none, .load 1 false (.t 6)⟩,
      ⟨some 8, none, .bin .eql (.t 7) (.c (.int .i64 1))⟩])
     (.cond (.t 8)
      (.seq
       (.reg [⟨some 9, none, .faddr 0 (.t 1)⟩,
        ⟨some 10, none, .load 1 false (.t 9)⟩,
        ⟨some 11, none, .call false 37 [(.t 10)]⟩,
        ⟨some 2, none, .mov (.t 11)⟩])
       .ret)
      .skip))
    (.seq
     (.reg [⟨some 12, none, .faddr 0 (.t 1)⟩,
      ⟨some 13, none, .load 1 false (.t 12)⟩,
      ⟨some 14, none, .call false 37 [(.t 13)]⟩,
      ⟨some 15, none, .bin .add (.t 14) (.c (.str [47]))⟩,
      ⟨some 16, none, .faddr 1 (.t 1)⟩,
      ⟨some 17, none, .load 1 false (.t 16)⟩,
      ⟨some 18, none, .call false 37 [(.t 17)]⟩,
      ⟨some 19, none, .bin .add (.t 15) (.t 18)⟩,
      ⟨some 2, none, .mov (.t 19)⟩])
     .ret)))), none⟩
def k16 : List (List Nat) := []
def o16 : List Nat := [3000000]
/-- tracebook/tracebookref02.Text -/
def c17 : AFn := ⟨1, 27, [.t 2],
 (.seq
  (.reg [⟨some 1, none, .box (.t 0)⟩,
   ⟨some 2, none, .mov (.c (.str []))⟩])
  (.seq
   (.seq
    (.reg [⟨some 4, none, .load 2 true (.t 1)⟩,
     ⟨some 5, none, .call false 15 [(.t 4)]⟩,
     ⟨some 6, none, .un .not (.t 5)⟩])
    (.cond (.t 6)
     (.seq
      (.reg [⟨some 2, none, .mov (.c (.str []))⟩])
      .ret)
     .skip))
   (.seq
    (.reg [⟨some 7, none, .faddr 0 (.t 1)⟩,
     ⟨some 8, none, .load 1 false (.t 7)⟩,
     ⟨some 9, none, .call false 35 [(.t 8)]⟩,
     ⟨some 10, none, .call false 38 [(.t 9)]⟩,
     ⟨some 3, none, .mov (.t 10)⟩])
    (.seq
     (.seq
      (.reg [⟨some 11, none, .faddr 0 (.t 1)⟩,
       ⟨some 12, none, .load 1 false (.t 11)⟩,
       ⟨some 13, none, .bin .lss (.t 12) (.c (.int .i64 0))⟩])
      (.cond (.t 13)
       (.reg [⟨some 14, none, .mov (.t 3)⟩,
        ⟨some 15, none, .bin .add (.c (.str [45])) (.t 14)⟩,
        ⟨some 3, none, .mov (.t 15)⟩])
       .skip))
     (.seq
      (.seq
       (.reg [⟨some 16, none, .faddr 1 (.t 1)⟩,
        ⟨some 17, none, .load 1 false (.t 16)⟩,
        ⟨some 18, none, .bin .neq (.t 17) (.c (.int .i64 1))⟩])
       (.cond (.t 18)
        (.reg [⟨some 19, none, .mov (.t 3)⟩,
         ⟨some 20, none, .bin .add (.t 19) (.c (.str [47]))⟩,
         ⟨some 21, none, .faddr 1 (.t 1)⟩,
         ⟨some 22, none, .load 1 false (.t 21)⟩,
         ⟨some 23, none, .call false 35 [(.t 22)]⟩,
         ⟨some 24, none, .call false 38 [(.t 23)]⟩,
         ⟨some 25, none, .bin .add (.t 20) (.t 24)⟩,
         ⟨some 3, none, .mov (.t 25)⟩])
        .skip))
      (.seq
       (.reg [⟨some 26, none, .mov (.t 3)⟩,
        ⟨some 2, none, .mov (.t 26)⟩])
       .ret)))))), none⟩
def k17 : List (List Nat) := []
def o17 : List Nat := [3000000]
/-- tracebook/frac.Add -/
def c18 : AFn := ⟨2, 93, [.c 4 2 true, .t 5],
 (.seq
  (.reg [⟨some 2, none, .box (.t 0)⟩,
   ⟨some 3, none, .box (.t 1)⟩,
   ⟨some 4, none, .alloc [(.int .i64 0), (.int .i64 0)]⟩,
   ⟨some 5, none, .mov (.c (.bool false))⟩])
  (.seq
   (.seq
    (.reg [⟨some 14, none, .load 2 true (.t 2)⟩,
     ⟨some 15, none, .call false 13 [(.t 14)]⟩,
     ⟨some 16, none, .un .not (.t 15)⟩,
     ⟨some 17, none, .mov (.t 16)⟩,
     ⟨some 18, some (17, false), .load 2 true (.t 3)⟩,
     ⟨some 19, some (17, false), .call false 13 [(.t 18)]⟩,
     ⟨some 20, some (17, false), .un .not (.t 19)⟩,
     ⟨some 21, none, .pick (.t 17) (.c (.bool true)) (.t 20)⟩])
    (.cond (.t 21)
     (.seq
      (.reg [⟨some 22, none, .build [(.int .i64 0), (.int .i64 0)] []⟩,
       ⟨none, none, .store 2 (.t 4) (.t 22)⟩,
       ⟨some 5, none, .mov (.c (.bool false))⟩])
      .ret)
     .skip))
   (.seq
    (.reg [⟨some 23, none, .faddr 1 (.t 2)⟩,
     ⟨some 24, none, .load 1 false (.t 23)⟩,
     ⟨some 25, none, .conv (.int .u64) (.t 24)⟩,
     ⟨some 26, none, .faddr 1 (.t 3)⟩,
     ⟨some 27, none, .load 1 false (.t 26)⟩,
     ⟨some 28, none, .conv (.int .u64) (.t 27)⟩,
     ⟨some 29, none, .call false 32 [(.t 25), (.t 28)]⟩,
     ⟨some 30, none, .conv (.int .i64) (.t 29)⟩,
     ⟨some 6, none, .mov (.t 30)⟩])
    (.seq
     (.reg [⟨some 31, none, .faddr 0 (.t 2)⟩,
      ⟨some 32, none, .load 1 false (.t 31)⟩,
      ⟨some 33, none, .faddr 1 (.t 3)⟩,
      ⟨some 34, none, .load 1 false (.t 33)⟩,
      ⟨some 35, none, .mov (.t 6)⟩,
      ⟨some 36, none, .bin .quo (.t 34) (.t 35)⟩,
      ⟨some 37, none, .call false 39 [(.t 32), (.t 36)]⟩,
      ⟨some 38, none, .faddr 0 (.t 3)⟩,
      ⟨some 39, none, .load 1 false (.t 38)⟩,
      ⟨some 40, none, .faddr 1 (.t 2)⟩,
      ⟨some 41, none, .load 1 false (.t 40)⟩,
      ⟨some 42, none, .mov (.t 6)⟩,
      ⟨some 43, none, .bin .quo (.t 41) (.t 42)⟩,
      ⟨some 44, none, .call false 39 [(.t 39), (.t 43)]⟩,
      ⟨some 45, none, .call false 40 [(.t 37), (.t 44)]⟩,
      ⟨some 7, none, .alloc [(.int .u64 0), (.int .u64 0)]⟩,
      ⟨none, none, .store 2 (.t 7) (.t 45)⟩])
     (.seq
      (.reg [⟨some 46, none, .load 2 true (.t 7)⟩,
       ⟨some 47, none, .call false 41 [(.t 46)]⟩,
       ⟨some 48, none, .bin .lss (.t 47) (.c (.int .i64 0))⟩,
       ⟨some 8, none, .mov (.t 48)⟩])
      (.seq
       (.seq
        (.reg [⟨some 49, none, .mov (.t 8)⟩])
        (.cond (.t 49)
         (.reg [⟨some 50, none, .build [(.int .u64 0), (.int .u64 0)] []⟩,
          ⟨some 51, none, .load 2 true (.t 7)⟩,
          ⟨some 52, none, .call false 42 [(.t 50), (.t 51)]⟩,
          ⟨none, none, .store 2 (.t 7) (.t 52)⟩])
         .skip))
       (.seq
        (.reg [⟨some 53, none, .load 2 true (.t 7)⟩,
         ⟨some 54, none, .mov (.t 6)⟩,
         ⟨some 55, none, .conv (.int .u64) (.t 54)⟩,
         ⟨some 56, none, .call false 43 [(.t 53), (.t 55)]⟩,
         ⟨some 57, none, .mov (.t 6)⟩,
         ⟨some 58, none, .conv (.int .u64) (.t 57)⟩,
         ⟨some 59, none, .call false 32 [(.t 56), (.t 58)]⟩,
         ⟨some 9, none, .mov (.t 59)⟩])
        (.seq
         (.reg [⟨some 61, none, .load 2 true (.t 7)⟩,
          ⟨some 62, none, .mov (.t 9)⟩,
          ⟨some 63, none, .call false 44 [(.t 61), (.t 62)]⟩,
          ⟨some 60, none, .mov (.t 63)⟩,
          ⟨some 64, none, .ext (.t 60) 0⟩,
          ⟨some 65, none, .ext (.t 60) 1⟩,
          ⟨some 10, none, .mov (.t 64)⟩,
          ⟨some 11, none, .mov (.t 65)⟩])
         (.seq
          (.reg [⟨some 67, none, .faddr 1 (.t 2)⟩,
           ⟨some 68, none, .load 1 false (.t 67)⟩,
           ⟨some 69, none, .mov (.t 6)⟩,
           ⟨some 70, none, .bin .quo (.t 68) (.t 69)⟩,
           ⟨some 71, none, .conv (.int .u64) (.t 70)⟩,
           ⟨some 72, none, .faddr 1 (.t 3)⟩,
           ⟨some 73, none, .load 1 false (.t 72)⟩,
           ⟨some 74, none, .conv (.int .u64) (.t 73)⟩,
           ⟨some 75, none, .mov (.t 9)⟩,
           ⟨some 76, none, .bin .quo (.t 74) (.t 75)⟩,
           ⟨some 77, none, .call false 45 [(.t 71), (.t 76)]⟩,
           ⟨some 66, none, .mov (.t 77)⟩,
           ⟨some 78, none, .ext (.t 66) 0⟩,
           ⟨some 79, none, .ext (.t 66) 1⟩,
           ⟨some 12, none, .mov (.t 78)⟩,
           ⟨some 13, none, .mov (.t 79)⟩])
          (.seq
           (.seq
            (.reg [⟨some 80, none, .mov (.t 11)⟩,
             ⟨some 81, none, .un .not (.t 80)⟩,
             ⟨some 82, none, .mov (.t 81)⟩,
             ⟨some 83, some (82, false), .mov (.t 13)⟩,
             ⟨some 84, some (82, false), .un .not (.t 83)⟩,
             ⟨some 85, none, .pick (.t 82) (.c (.bool true)) (.t 84)⟩])
            (.cond (.t 85)
             (.seq
              (.reg [⟨some 86, none, .build [(.int .i64 0), (.int .i64 0)] []⟩,
               ⟨none, none, .store 2 (.t 4) (.t 86)⟩,
               ⟨some 5, none, .mov (.c (.bool false))⟩])
              .ret)
             .skip))
           (.seq
            (.reg [⟨some 87, none, .mov (.t 8)⟩,
             ⟨some 88, none, .mov (.t 10)⟩,
             ⟨some 89, none, .mov (.t 12)⟩,
             ⟨some 90, none, .call false 33 [(.t 87), (.t 88), (.t 89)]⟩,
             ⟨some 91, none, .ext (.t 90) 0⟩,
             ⟨some 92, none, .ext (.t 90) 1⟩,
             ⟨none, none, .store 2 (.t 4) (.t 91)⟩,
             ⟨some 5, none, .mov (.t 92)⟩])
            .ret))))))))))), none⟩
def k18 : List (List Nat) := []
def o18 : List Nat := [3000000]
/-- tracebook/tracebookref02.Add -/
def c19 : AFn := ⟨2, 36, [.c 4 2 true, .t 5],
 (.seq
  (.reg [⟨some 2, none, .box (.t 0)⟩,
   ⟨some 3, none, .box (.t 1)⟩,
   ⟨some 4, none, .alloc [(.int .i64 0), (.int .i64 0)]⟩,
   ⟨some 5, none, .mov (.c (.bool false))⟩])
  (.seq
   (.seq
    (.reg [⟨some 6, none, .load 2 true (.t 2)⟩,
     ⟨some 7, none, .call false 15 [(.t 6)]⟩,
     ⟨some 8, none, .un .not (.t 7)⟩,
     ⟨some 9, none, .mov (.t 8)⟩,
     ⟨some 10, some (9, false), .load 2 true (.t 3)⟩,
     ⟨some 11, some (9, false), .call false 15 [(.t 10)]⟩,
     ⟨some 12, some (9, false), .un .not (.t 11)⟩,
     ⟨some 13, none, .pick (.t 9) (.c (.bool true)) (.t 12)⟩])
    (.cond (.t 13)
     (.seq
      (.reg [⟨some 14, none, .build [(.int .i64 0), (.int .i64 0)] []⟩,
       ⟨none, none, .store 2 (.t 4) (.t 14)⟩,
       ⟨some 5, none, .mov (.c (.bool false))⟩])
      .ret)
     .skip))
   (.seq
    (.reg [⟨some 15, none, .faddr 0 (.t 2)⟩,
     ⟨some 16, none, .load 1 false (.t 15)⟩,
     ⟨some 17, none, .faddr 1 (.t 3)⟩,
     ⟨some 18, none, .load 1 false (.t 17)⟩,
     ⟨some 19, none, .call false 47 [(.t 16), (.t 18)]⟩,
     ⟨some 20, none, .faddr 0 (.t 3)⟩,
     ⟨some 21, none, .load 1 false (.t 20)⟩,
     ⟨some 22, none, .faddr 1 (.t 2)⟩,
     ⟨some 23, none, .load 1 false (.t 22)⟩,
     ⟨some 24, none, .call false 47 [(.t 21), (.t 23)]⟩,
     ⟨some 25, none, .call false 46 [(.t 19), (.t 24)]⟩,
     ⟨some 26, none, .faddr 1 (.t 2)⟩,
     ⟨some 27, none, .load 1 false (.t 26)⟩,
     ⟨some 28, none, .call false 35 [(.t 27)]⟩,
     ⟨some 29, none, .faddr 1 (.t 3)⟩,
     ⟨some 30, none, .load 1 false (.t 29)⟩,
     ⟨some 31, none, .call false 35 [(.t 30)]⟩,
     ⟨some 32, none, .call false 48 [(.t 28), (.t 31)]⟩,
     ⟨some 33, none, .call false 34 [(.t 25), (.t 32)]⟩,
     ⟨some 34, none, .ext (.t 33) 0⟩,
     ⟨some 35, none, .ext (.t 33) 1⟩,
     ⟨none, none, .store 2 (.t 4) (.t 34)⟩,
     ⟨some 5, none, .mov (.t 35)⟩])
    .ret))), none⟩
def k19 : List (List Nat) := []
def o19 : List Nat := [3000000]
/-- tracebook/frac.Sub -/
def c20 : AFn := ⟨2, 20, [.c 4 2 true, .t 5],
 (.seq
  (.reg [⟨some 2, none, .box (.t 0)⟩,
   ⟨some 3, none, .box (.t 1)⟩,
   ⟨some 4, none, .alloc [(.int .i64 0), (.int .i64 0)]⟩,
   ⟨some 5, none, .mov (.c (.bool false))⟩])
  (.seq
   (.seq
    (.reg [⟨some 6, none, .load 2 true (.t 3)⟩,
     ⟨some 7, none, .call false 13 [(.t 6)]⟩,
     ⟨some 8, none, .un .not (.t 7)⟩])
    (.cond (.t 8)
     (.seq
      (.reg [⟨some 9, none, .build [(.int .i64 0), (.int .i64 0)] []⟩,
       ⟨none, none, .store 2 (.t 4) (.t 9)⟩,
       ⟨some 5, none, .mov (.c (.bool false))⟩])
      .ret)
     .skip))
   (.seq
    (.reg [⟨some 10, none, .load 2 true (.t 2)⟩,
     ⟨some 11, none, .faddr 0 (.t 3)⟩,
     ⟨some 12, none, .load 1 false (.t 11)⟩,
     ⟨some 13, none, .un .neg (.t 12)⟩,
     ⟨some 14, none, .faddr 1 (.t 3)⟩,
     ⟨some 15, none, .load 1 false (.t 14)⟩,
     ⟨some 16, none, .build [(.int .i64 0), (.int .i64 0)] [(0, 1, (.t 13)), (1, 1, (.t 15))]⟩,
     ⟨some 17, none, .call false 18 [(.t 10), (.t 16)]⟩,
     ⟨some 18, none, .ext (.t 17) 0⟩,
     ⟨some 19, none, .ext (.t 17) 1⟩,
     ⟨none, none, .store 2 (.t 4) (.t 18)⟩,
     ⟨some 5, none, .mov (.t 19)⟩])
    .ret))), none⟩
def k20 : List (List Nat) := []
def o20 : List Nat := [3000000]
/-- tracebook/tracebookref02.Sub -/
def c21 : AFn := ⟨2, 16, [.c 4 2 true, .t 5],
 (.seq
  (.reg [⟨some 2, none, .box (.t 0)⟩,
   ⟨some 3, none, .box (.t 1)⟩,
   ⟨some 4, none, .alloc [(.int .i64 0), (.int .i64 0)]⟩,
   ⟨some 5, none, .mov (.c (.bool false))⟩])
  (.seq
   (.seq
    (.reg [⟨some 6, none, .load 2 true (.t 3)⟩,
     ⟨some 7, none, .call false 15 [(.t 6)]⟩,
     ⟨some 8, none, .un .not (.t 7)⟩])
    (.cond (.t 8)
     (.seq
      (.reg [⟨some 9, none, .build [(.int .i64 0), (.int .i64 0)] []⟩,
       ⟨none, none, .store 2 (.t 4) (.t 9)⟩,
       ⟨some 5, none, .mov (.c (.bool false))⟩])
      .ret)
     .skip))
   (.seq
    (.reg [⟨some 10, none, .load 2 true (.t 2)⟩,
     ⟨some 11, none, .load 2 true (.t 3)⟩,
     ⟨some 12, none, .call false 49 [(.t 11)]⟩,
     ⟨some 13, none, .call false 19 [(.t 10), (.t 12)]⟩,
     ⟨some 14, none, .ext (.t 13) 0⟩,
     ⟨some 15, none, .ext (.t 13) 1⟩,
     ⟨none, none, .store 2 (.t 4) (.t 14)⟩,
     ⟨some 5, none, .mov (.t 15)⟩])
    .ret))), none⟩
def k21 : List (List Nat) := []
def o21 : List Nat := [3000000]
/-- tracebook/frac.Mul -/
def c22 : AFn := ⟨2, 82, [.c 4 2 true, .t 5],
 (.seq
  (.reg [⟨some 2, none, .box (.t 0)⟩,
   ⟨some 3, none, .box (.t 1)⟩,
   ⟨some 4, none, .alloc [(.int .i64 0), (.int .i64 0)]⟩,
   ⟨some 5, none, .mov (.c (.bool false))⟩])
  (.seq
   (.seq
    (.reg [⟨some 12, none, .load 2 true (.t 2)⟩,
     ⟨some 13, none, .call false 13 [(.t 12)]⟩,
     ⟨some 14, none, .un .not (.t 13)⟩,
     ⟨some 15, none, .mov (.t 14)⟩,
     ⟨some 16, some (15, false), .load 2 true (.t 3)⟩,
     ⟨some 17, some (15, false), .call false 13 [(.t 16)]⟩,
     ⟨some 18, some (15, false), .un .not (.t 17)⟩,
     ⟨some 19, none, .pick (.t 15) (.c (.bool true)) (.t 18)⟩])
    (.cond (.t 19)
     (.seq
      (.reg [⟨some 20, none, .build [(.int .i64 0), (.int .i64 0)] []⟩,
       ⟨none, none, .store 2 (.t 4) (.t 20)⟩,
       ⟨some 5, none, .mov (.c (.bool false))⟩])
      .ret)
     .skip))
   (.seq
    (.reg [⟨some 21, none, .faddr 0 (.t 2)⟩,
     ⟨some 22, none, .load 1 false (.t 21)⟩,
     ⟨some 23, none, .call false 31 [(.t 22)]⟩,
     ⟨some 24, none, .faddr 1 (.t 3)⟩,
     ⟨some 25, none, .load 1 false (.t 24)⟩,
     ⟨some 26, none, .conv (.int .u64) (.t 25)⟩,
     ⟨some 27, none, .call false 32 [(.t 23), (.t 26)]⟩,
     ⟨some 28, none, .faddr 0 (.t 3)⟩,
     ⟨some 29, none, .load 1 false (.t 28)⟩,
     ⟨some 30, none, .call false 31 [(.t 29)]⟩,
     ⟨some 31, none, .faddr 1 (.t 2)⟩,
     ⟨some 32, none, .load 1 false (.t 31)⟩,
     ⟨some 33, none, .conv (.int .u64) (.t 32)⟩,
     ⟨some 34, none, .call false 32 [(.t 30), (.t 33)]⟩,
     ⟨some 6, none, .mov (.t 27)⟩,
     ⟨some 7, none, .mov (.t 34)⟩])
    (.seq
     (.reg [⟨some 36, none, .faddr 0 (.t 2)⟩,
      ⟨some 37, none, .load 1 false (.t 36)⟩,
      ⟨some 38, none, .call false 31 [(.t 37)]⟩,
      ⟨some 39, none, .mov (.t 6)⟩,
      ⟨some 40, none, .bin .quo (.t 38) (.t 39)⟩,
      ⟨some 41, none, .faddr 0 (.t 3)⟩,
      ⟨some 42, none, .load 1 false (.t 41)⟩,
      ⟨some 43, none, .call false 31 [(.t 42)]⟩,
      ⟨some 44, none, .mov (.t 7)⟩,
      ⟨some 45, none, .bin .quo (.t 43) (.t 44)⟩,
      ⟨some 46, none, .call false 45 [(.t 40), (.t 45)]⟩,
      ⟨some 35, none, .mov (.t 46)⟩,
      ⟨some 47, none, .ext (.t 35) 0⟩,
      ⟨some 48, none, .ext (.t 35) 1⟩,
      ⟨some 8, none, .mov (.t 47)⟩,
      ⟨some 9, none, .mov (.t 48)⟩])
     (.seq
      (.reg [⟨some 50, none, .faddr 1 (.t 2)⟩,
       ⟨some 51, none, .load 1 false (.t 50)⟩,
       ⟨some 52, none, .conv (.int .u64) (.t 51)⟩,
       ⟨some 53, none, .mov (.t 7)⟩,
       ⟨some 54, none, .bin .quo (.t 52) (.t 53)⟩,
       ⟨some 55, none, .faddr 1 (.t 3)⟩,
       ⟨some 56, none, .load 1 false (.t 55)⟩,
       ⟨some 57, none, .conv (.int .u64) (.t 56)⟩,
       ⟨some 58, none, .mov (.t 6)⟩,
       ⟨some 59, none, .bin .quo (.t 57) (.t 58)⟩,
       ⟨some 60, none, .call false 45 [(.t 54), (.t 59)]⟩,
       ⟨some 49, none, .mov (.t 60)⟩,
       ⟨some 61, none, .ext (.t 49) 0⟩,
       ⟨some 62, none, .ext (.t 49) 1⟩,
       ⟨some 10, none, .mov (.t 61)⟩,
       ⟨some 11, none, .mov (.t 62)⟩])
      (.seq
       (.seq
        (.reg [⟨some 63, none, .mov (.t 9)⟩,
         ⟨some 64, none, .un .not (.t 63)⟩,
         ⟨some 65, none, .mov (.t 64)⟩,
         ⟨some 66, some (65, false), .mov (.t 11)⟩,
         ⟨some 67, some (65, false), .un .not (.t 66)⟩,
         ⟨some 68, none, .pick (.t 65) (.c (.bool true)) (.t 67)⟩])
        (.cond (.t 68)
         (.seq
          (.reg [⟨some 69, none, .build [(.int .i64 0), (.int .i64 0)] []⟩,
           ⟨none, none, .store 2 (.t 4) (.t 69)⟩,
           ⟨some 5, none, .mov (.c (.bool false))⟩])
          .ret)
         .skip))
       (.seq
        (.reg [⟨some 70, none, .faddr 0 (.t 2)⟩,
         ⟨some 71, none, .load 1 false (.t 70)⟩,
         ⟨some 72, none, .bin .lss (.t 71) (.c (.int .i64 0))⟩,
         ⟨some 73, none, .faddr 0 (.t 3)⟩,
         ⟨some 74, none, .load 1 false (.t 73)⟩,
         ⟨some 75, none, .bin .lss (.t 74) (.c (.int .i64 0))⟩,
         ⟨some 76, none, .beq true (.t 72) (.t 75)⟩,
         ⟨some 77, none, .mov (.t 8)⟩,
         ⟨some 78, none, .mov (.t 10)⟩,
         ⟨some 79, none, .call false 33 [(.t 76), (.t 77), (.t 78)]⟩,
         ⟨some 80, none, .ext (.t 79) 0⟩,
         ⟨some 81, none, .ext (.t 79) 1⟩,
         ⟨none, none, .store 2 (.t 4) (.t 80)⟩,
         ⟨some 5, none, .mov (.t 81)⟩])
        .ret))))))), none⟩
def k22 : List (List Nat) := []
def o22 : List Nat := [3000000]
/-- tracebook/tracebookref02.Mul -/
def c23 : AFn := ⟨2, 40, [.c 4 2 true, .t 5],
 (.seq
  (.reg [⟨some 2, none, .box (.t 0)⟩,
   ⟨some 3, none, .box (.t 1)⟩,
   ⟨some 4, none, .alloc [(.int .i64 0), (.int .i64 0)]⟩,
   ⟨some 5, none, .mov (.c (.bool false))⟩])
  (.seq
   (.seq
    (.reg [⟨some 6, none, .load 2 true (.t 2)⟩,
     ⟨some 7, none, .call false 15 [(.t 6)]⟩,
     ⟨some 8, none, .un .not (.t 7)⟩,
     ⟨some 9, none, .mov (.t 8)⟩,
     ⟨some 10, some (9, false), .load 2 true (.t 3)⟩,
     ⟨some 11, some (9, false), .call false 15 [(.t 10)]⟩,
     ⟨some 12, some (9, false), .un .not (.t 11)⟩,
     ⟨some 13, none, .pick (.t 9) (.c (.bool true)) (.t 12)⟩])
    (.cond (.t 13)
     (.seq
      (.reg [⟨some 14, none, .build [(.int .i64 0), (.int .i64 0)] []⟩,
       ⟨none, none, .store 2 (.t 4) (.t 14)⟩,
       ⟨some 5, none, .mov (.c (.bool false))⟩])
      .ret)
     .skip))
   (.seq
    (.reg [⟨some 15, none, .faddr 0 (.t 2)⟩,
     ⟨some 16, none, .load 1 false (.t 15)⟩,
     ⟨some 17, none, .bin .lss (.t 16) (.c (.int .i64 0))⟩,
     ⟨some 18, none, .faddr 0 (.t 3)⟩,
     ⟨some 19, none, .load 1 false (.t 18)⟩,
     ⟨some 20, none, .bin .lss (.t 19) (.c (.int .i64 0))⟩,
     ⟨some 21, none, .beq true (.t 17) (.t 20)⟩,
     ⟨some 22, none, .faddr 0 (.t 2)⟩,
     ⟨some 23, none, .load 1 false (.t 22)⟩,
     ⟨some 24, none, .call false 35 [(.t 23)]⟩,
     ⟨some 25, none, .faddr 0 (.t 3)⟩,
     ⟨some 26, none, .load 1 false (.t 25)⟩,
     ⟨some 27, none, .call false 35 [(.t 26)]⟩,
     ⟨some 28, none, .call false 48 [(.t 24), (.t 27)]⟩,
     ⟨some 29, none, .build [(.bool false), (.int .u64 0), (.int .u64 0)] [(0, 1, (.t 21)), (1, 2, (.t 28))]⟩,
     ⟨some 30, none, .faddr 1 (.t 2)⟩,
     ⟨some 31, none, .load 1 false (.t 30)⟩,
     ⟨some 32, none, .call false 35 [(.t 31)]⟩,
     ⟨some 33, none, .faddr 1 (.t 3)⟩,
     ⟨some 34, none, .load 1 false (.t 33)⟩,
     ⟨some 35, none, .call false 35 [(.t 34)]⟩,
     ⟨some 36, none, .call false 48 [(.t 32), (.t 35)]⟩,
     ⟨some 37, none, .call false 34 [(.t 29), (.t 36)]⟩,
     ⟨some 38, none, .ext (.t 37) 0⟩,
     ⟨some 39, none, .ext (.t 37) 1⟩,
     ⟨none, none, .store 2 (.t 4) (.t 38)⟩,
     ⟨some 5, none, .mov (.t 39)⟩])
    .ret))), none⟩
def k23 : List (List Nat) := []
def o23 : List Nat := [3000000]
/-- tracebook/frac.Cmp -/
def c24 : AFn := ⟨2, 25, [.t 4],
 (.seq
  (.reg [⟨some 2, none, .box (.t 0)⟩,
   ⟨some 3, none, .box (.t 1)⟩,
   ⟨some 4, none, .mov (.c (.int .i64 0))⟩])
  (.seq
   (.seq
    (.reg [⟨some 5, none, .load 2 true (.t 2)⟩,
     ⟨some 6, none, .call false 13 [(.t 5)]⟩,
     ⟨some 7, none, .un .not (.t 6)⟩])
    (.cond (.t 7)
     (.reg [⟨some 8, none, .build [(.int .i64 0), (.int .i64 0)] [(1, 1, (.c (.int .i64 1)))]⟩,
      ⟨none, none, .store 2 (.t 2) (.t 8)⟩])
     .skip))
   (.seq
    (.seq
     (.reg [⟨some 9, none, .load 2 true (.t 3)⟩,
      ⟨some 10, none, .call false 13 [(.t 9)]⟩,
      ⟨some 11, none, .un .not (.t 10)⟩])
     (.cond (.t 11)
      (.reg [⟨some 12, none, .build [(.int .i64 0), (.int .i64 0)] [(1, 1, (.c (.int .i64 1)))]⟩,
       ⟨none, none, .store 2 (.t 3) (.t 12)⟩])
      .skip))
    (.seq
     (.reg [⟨some 13, none, .faddr 0 (.t 2)⟩,
      ⟨some 14, none, .load 1 false (.t 13)⟩,
      ⟨some 15, none, .faddr 1 (.t 3)⟩,
      ⟨some 16, none, .load 1 false (.t 15)⟩,
      ⟨some 17, none, .call false 39 [(.t 14), (.t 16)]⟩,
      ⟨some 18, none, .faddr 0 (.t 3)⟩,
      ⟨some 19, none, .load 1 false (.t 18)⟩,
      ⟨some 20, none, .faddr 1 (.t 2)⟩,
      ⟨some 21, none, .load 1 false (.t 20)⟩,
      ⟨some 22, none, .call false 39 [(.t 19), (.t 21)]⟩,
      ⟨some 23, none, .call false 42 [(.t 17), (.t 22)]⟩,
      ⟨some 24, none, .call false 41 [(.t 23)]⟩,
      ⟨some 4, none, .mov (.t 24)⟩])
     .ret)))), none⟩
def k24 : List (List Nat) := []
def o24 : List Nat := [3000000]
/-- tracebook/tracebookref02.Cmp -/
def c25 : AFn := ⟨2, 30, [.t 4],
 (.seq
  (.reg [⟨some 2, none, .box (.t 0)⟩,
   ⟨some 3, none, .box (.t 1)⟩,
   ⟨some 4, none, .mov (.c (.int .i64 0))⟩])
  (.seq
   (.reg [⟨some 6, none, .load 2 true (.t 2)⟩,
    ⟨some 7, none, .call false 50 [(.t 6)]⟩,
    ⟨none, none, .store 2 (.t 2) (.t 7)⟩])
   (.seq
    (.reg [⟨some 8, none, .load 2 true (.t 3)⟩,
     ⟨some 9, none, .call false 50 [(.t 8)]⟩,
     ⟨none, none, .store 2 (.t 3) (.t 9)⟩])
    (.seq
     (.reg [⟨some 10, none, .faddr 0 (.t 2)⟩,
      ⟨some 11, none, .load 1 false (.t 10)⟩,
      ⟨some 12, none, .faddr 1 (.t 3)⟩,
      ⟨some 13, none, .load 1 false (.t 12)⟩,
      ⟨some 14, none, .call false 47 [(.t 11), (.t 13)]⟩,
      ⟨some 15, none, .load 2 true (.t 3)⟩,
      ⟨some 16, none, .call false 49 [(.t 15)]⟩,
      ⟨some 17, none, .fld 0 1 false (.t 16)⟩,
      ⟨some 18, none, .faddr 1 (.t 2)⟩,
      ⟨some 19, none, .load 1 false (.t 18)⟩,
      ⟨some 20, none, .call false 47 [(.t 17), (.t 19)]⟩,
      ⟨some 21, none, .call false 46 [(.t 14), (.t 20)]⟩,
      ⟨some 5, none, .alloc [(.bool false), (.int .u64 0), (.int .u64 0)]⟩,
      ⟨none, none, .store 3 (.t 5) (.t 21)⟩])
     (.seq
      (.block 0
       (.seq
        (.reg [⟨some 23, none, .faddr 1 (.t 5)⟩,
         ⟨some 24, none, .load 2 true (.t 23)⟩,
         ⟨some 25, none, .build [(.int .u64 0), (.int .u64 0)] []⟩,
         ⟨some 26, none, .beqA false [.i, .i] (.t 24) (.t 25)⟩,
         ⟨some 22, none, .mov (.t 26)⟩])
        (.cond (.t 22)
         (.seq
          (.reg [⟨some 4, none, .mov (.c (.int .i64 0))⟩])
          .ret)
         (.seq
          (.reg [⟨some 28, none, .faddr 0 (.t 5)⟩,
           ⟨some 29, none, .load 1 false (.t 28)⟩,
           ⟨some 27, none, .mov (.t 29)⟩])
          (.cond (.t 27)
           (.seq
            (.reg [⟨some 4, none, .mov (.c (.int .i64 (-1)))⟩])
            .ret)
           .skip)))))
      (.seq
       (.reg [⟨some 4, none, .mov (.c (.int .i64 1))⟩])
       .ret)))))), none⟩
def k25 : List (List Nat) := []
def o25 : List Nat := [3000000]
/-- tracebook/tracebooklaw02.sign -/
def c26 : AFn := ⟨1, 9, [.t 2],
 (.seq
  (.reg [⟨some 2, none, .mov (.c (.int .i64 0))⟩])
  (.seq
   (.block 0
    (.seq
     (.reg [⟨some 4, none, .mov (.t 0)⟩,
      ⟨some 5, none, .bin .lss (.t 4) (.c (.int .i64 0))⟩,
      ⟨some 3, none, .mov (.t 5)⟩])
     (.cond (.t 3)
      (.seq
       (.reg [⟨some 2, none, .mov (.c (.int .i64 (-1)))⟩])
       .ret)
      (.seq
       (.reg [⟨some 7, none, .mov (.t 0)⟩,
        ⟨some 8, none, .bin .gtr (.t 7) (.c (.int .i64 0))⟩,
        ⟨some 6, none, .mov (.t 8)⟩])
       (.cond (.t 6)
        (.seq
         (.reg [⟨some 2, none, .mov (.c (.int .i64 1))⟩])
         .ret)
        .skip)))))
   (.seq
    (.reg [⟨some 2, none, .mov (.c (.int .i64 0))⟩])
    .ret))), none⟩
def k26 : List (List Nat) := []
def o26 : List Nat := [3000000]
def c27b0 : AC := (.seq
          (.reg [⟨some 20, none, .bin .lss (.t 19) (.t 18)⟩])
          (.seq
           (.cond (.t 20)
            .skip
            (.exit 0))
           (.seq
            (.block 1
             (.seq
              (.reg [⟨some 21, none, .iaddr (.slice 2) (.t 17) (.t 19)⟩,
               ⟨some 22, none, .load 2 true (.t 21)⟩,
               ⟨some 8, none, .alloc [(.int .i64 0), (.int .i64 0)]⟩,
               ⟨none, none, .store 2 (.t 8) (.t 22)⟩])
              (.reg [⟨some 23, none, .load 2 true (.t 6)⟩,
               ⟨some 24, none, .faddr 0 (.t 8)⟩,
               ⟨some 25, none, .load 1 false (.t 24)⟩,
               ⟨some 26, none, .mov (.t 4)⟩,
               ⟨some 27, none, .faddr 1 (.t 8)⟩,
               ⟨some 28, none, .load 1 false (.t 27)⟩,
               ⟨some 29, none, .bin .quo (.t 26) (.t 28)⟩,
               ⟨some 30, none, .call false 39 [(.t 25), (.t 29)]⟩,
               ⟨some 31, none, .call false 40 [(.t 23), (.t 30)]⟩,
               ⟨none, none, .store 2 (.t 6) (.t 31)⟩])))
            (.reg [⟨some 32, none, .bin .add (.t 19) (.c (.int .i64 1))⟩,
             ⟨some 19, none, .mov (.t 32)⟩]))))
def c27r0 : AC := (.seq
       (.reg [⟨some 33, none, .load 2 true (.t 6)⟩,
        ⟨some 34, none, .mov (.t 4)⟩,
        ⟨some 35, none, .call false 52 [(.t 33), (.t 34)]⟩,
        ⟨some 36, none, .ext (.t 35) 0⟩,
        ⟨some 37, none, .ext (.t 35) 1⟩,
        ⟨none, none, .store 2 (.t 2) (.t 36)⟩,
        ⟨some 3, none, .mov (.t 37)⟩])
       .ret)
/-- tracebook/frac.Sum -/
def c27 : AFn := ⟨1, 38, [.c 2 2 true, .t 3],
 (.seq
  (.reg [⟨some 2, none, .alloc [(.int .i64 0), (.int .i64 0)]⟩,
   ⟨some 3, none, .mov (.c (.bool false))⟩])
  (.seq
   (.reg [⟨some 10, none, .mov (.t 0)⟩,
    ⟨some 11, none, .call false 51 [(.t 10)]⟩,
    ⟨some 9, none, .mov (.t 11)⟩,
    ⟨some 12, none, .ext (.t 9) 0⟩,
    ⟨some 13, none, .ext (.t 9) 1⟩,
    ⟨some 4, none, .mov (.t 12)⟩,
    ⟨some 5, none, .mov (.t 13)⟩])
   (.seq
    (.seq
     (.reg [⟨some 14, none, .mov (.t 5)⟩,
      ⟨some 15, none, .un .not (.t 14)⟩])
     (.cond (.t 15)
      (.seq
       (.reg [⟨some 16, none, .build [(.int .i64 0), (.int .i64 0)] []⟩,
        ⟨none, none, .store 2 (.t 2) (.t 16)⟩,
        ⟨some 3, none, .mov (.c (.bool false))⟩])
       .ret)
      .skip))
    (.seq
     (.reg [⟨some 6, none, .alloc [(.int .u64 0), (.int .u64 0)]⟩])
     (.seq
      (.seq
       (.reg [⟨some 17, none, .mov (.t 0)⟩,
        ⟨some 18, none, .len (.t 17)⟩,
        ⟨some 19, none, .mov (.c (.int .i64 0))⟩])
       (.block 0
        (.loop [2, 4, 6, 17, 18, 19]
         c27b0)))
      c27r0))))), none⟩
def k27 : List (List Nat) := [[2, 4, 6, 17, 18, 19]]
def o27 : List Nat := [3000000]
def c28b0 : AC := (.seq
           (.seq
            (.reg [⟨some 21, none, .mov (.t 7)⟩,
             ⟨some 22, none, .mov (.t 0)⟩,
             ⟨some 23, none, .len (.t 22)⟩,
             ⟨some 24, none, .bin .lss (.t 21) (.t 23)⟩])
            (.cond (.t 24)
             .skip
             (.exit 0)))
           (.seq
            (.block 1
             (.reg [⟨some 27, none, .load 3 true (.t 6)⟩,
              ⟨some 28, none, .mov (.t 0)⟩,
              ⟨some 29, none, .mov (.t 7)⟩,
              ⟨some 30, none, .iaddr (.slice 2) (.t 28) (.t 29)⟩,
              ⟨some 31, none, .faddr 0 (.t 30)⟩,
              ⟨some 32, none, .load 1 false (.t 31)⟩,
              ⟨some 33, none, .mov (.t 4)⟩,
              ⟨some 34, none, .mov (.t 0)⟩,
              ⟨some 35, none, .mov (.t 7)⟩,
              ⟨some 36, none, .iaddr (.slice 2) (.t 34) (.t 35)⟩,
              ⟨some 37, none, .faddr 1 (.t 36)⟩,
              ⟨some 38, none, .load 1 false (.t 37)⟩,
              ⟨some 39, none, .bin .quo (.t 33) (.t 38)⟩,
              ⟨some 40, none, .call false 47 [(.t 32), (.t 39)]⟩,
              ⟨some 41, none, .call false 46 [(.t 27), (.t 40)]⟩,
              ⟨none, none, .store 3 (.t 6) (.t 41)⟩]))
            (.reg [⟨some 25, none, .mov (.t 7)⟩,
             ⟨some 26, none, .bin .add (.t 25) (.c (.int .i64 1))⟩,
             ⟨some 7, none, .mov (.t 26)⟩])))
def c28r0 : AC := (.seq
        (.reg [⟨some 42, none, .load 3 true (.t 6)⟩,
         ⟨some 43, none, .mov (.t 4)⟩,
         ⟨some 44, none, .call false 35 [(.t 43)]⟩,
         ⟨some 45, none, .build [(.int .u64 0), (.int .u64 0)] [(1, 1, (.t 44))]⟩,
         ⟨some 46, none, .call false 34 [(.t 42), (.t 45)]⟩,
         ⟨some 47, none, .ext (.t 46) 0⟩,
         ⟨some 48, none, .ext (.t 46) 1⟩,
         ⟨none, none, .store 2 (.t 2) (.t 47)⟩,
         ⟨some 3, none, .mov (.t 48)⟩])
        .ret)
/-- tracebook/tracebookref02.Sum -/
def c28 : AFn := ⟨1, 49, [.c 2 2 true, .t 3],
 (.seq
  (.reg [⟨some 2, none, .alloc [(.int .i64 0), (.int .i64 0)]⟩,
   ⟨some 3, none, .mov (.c (.bool false))⟩])
  (.seq
   (.seq
    (.reg [⟨some 8, none, .mov (.t 0)⟩,
     ⟨some 9, none, .len (.t 8)⟩,
     ⟨some 10, none, .bin .gtr (.t 9) (.c (.int .i64 20000))⟩])
    (.cond (.t 10)
     (.seq
      (.reg [⟨some 11, none, .build [(.int .i64 0), (.int .i64 0)] []⟩,
       ⟨none, none, .store 2 (.t 2) (.t 11)⟩,
       ⟨some 3, none, .mov (.c (.bool false))⟩])
      .ret)
     .skip))
   (.seq
    (.reg [⟨some 13, none, .mov (.t 0)⟩,
     ⟨some 14, none, .call false 53 [(.t 13)]⟩,
     ⟨some 12, none, .mov (.t 14)⟩,
     ⟨some 15, none, .ext (.t 12) 0⟩,
     ⟨some 16, none, .ext (.t 12) 1⟩,
     ⟨some 4, none, .mov (.t 15)⟩,
     ⟨some 5, none, .mov (.t 16)⟩])
    (.seq
     (.seq
      (.reg [⟨some 17, none, .mov (.t 5)⟩,
       ⟨some 18, none, .un .not (.t 17)⟩])
      (.cond (.t 18)
       (.seq
        (.reg [⟨some 19, none, .build [(.int .i64 0), (.int .i64 0)] []⟩,
         ⟨none, none, .store 2 (.t 2) (.t 19)⟩,
         ⟨some 3, none, .mov (.c (.bool false))⟩])
        .ret)
       .skip))
     (.seq
      (.reg [⟨some 20, none, .build [(.bool false), (.int .u64 0), (.int .u64 0)] []⟩,
       ⟨some 6, none, .alloc [(.bool false), (.int .u64 0), (.int .u64 0)]⟩,
       ⟨none, none, .store 3 (.t 6) (.t 20)⟩])
      (.seq
       (.seq
        (.reg [⟨some 7, none, .mov (.c (.int .i64 0))⟩])
        (.block 0
         (.loop [0, 2, 4, 6, 7]
          c28b0)))
       c28r0)))))), none⟩
def k28 : List (List Nat) := [[0, 2, 4, 6, 7]]
def o28 : List Nat := [3000000]
def c29b0 : AC := (.seq
        (.seq
         (.reg [⟨some 8, none, .mov (.t 4)⟩,
          ⟨some 9, none, .bin .geq (.t 8) (.c (.int .i64 0))⟩])
         (.cond (.t 9)
          .skip
          (.exit 0)))
        (.seq
         (.block 1
          (.reg [⟨some 12, none, .mov (.t 3)⟩,
           ⟨some 13, none, .mov (.t 0)⟩,
           ⟨some 14, none, .mov (.t 4)⟩,
           ⟨some 15, none, .iaddr (.slice 2) (.t 13) (.t 14)⟩,
           ⟨some 16, none, .load 2 true (.t 15)⟩,
           ⟨some 17, none, .bslice false 2 [(.int .i64 0), (.int .i64 0)] 1 [(0, (.t 16))]⟩,
           ⟨some 18, none, .append 2 16 (.t 12) (.t 17)⟩,
           ⟨some 3, none, .mov (.t 18)⟩]))
         (.reg [⟨some 10, none, .mov (.t 4)⟩,
          ⟨some 11, none, .bin .sub (.t 10) (.c (.int .i64 1))⟩,
          ⟨some 4, none, .mov (.t 11)⟩])))
/-- tracebook/tracebooklaw02.reversed -/
def c29 : AFn := ⟨1, 20, [.t 2],
 (.seq
  (.reg [⟨some 2, none, .nilv 2⟩])
  (.seq
   (.reg [⟨some 3, none, .nilv 2⟩])
   (.seq
    (.seq
     (.reg [⟨some 5, none, .mov (.t 0)⟩,
      ⟨some 6, none, .len (.t 5)⟩,
      ⟨some 7, none, .bin .sub (.t 6) (.c (.int .i64 1))⟩,
      ⟨some 4, none, .mov (.t 7)⟩])
     (.block 0
      (.loop [0, 3, 4]
       c29b0)))
    (.seq
     (.reg [⟨some 19, none, .mov (.t 3)⟩,
      ⟨some 2, none, .mov (.t 19)⟩])
     .ret)))), none⟩
def k29 : List (List Nat) := [[0, 3, 4]]
def o29 : List Nat := [3000000]
/-- tracebook/tracebooklaw02.of -/
def c30 : AFn := ⟨2, 8, [.c 4 2 true],
 (.seq
  (.reg [⟨some 4, none, .alloc [(.int .i64 0), (.int .i64 0)]⟩])
  (.seq
   (.reg [⟨some 5, none, .mov (.t 0)⟩,
    ⟨some 6, none, .mov (.t 1)⟩,
    ⟨some 7, none, .build [(.int .i64 0), (.int .i64 0)] [(0, 1, (.t 5)), (1, 1, (.t 6))]⟩,
    ⟨none, none, .store 2 (.t 4) (.t 7)⟩])
   .ret)), none⟩
def k30 : List (List Nat) := []
def o30 : List Nat := [3000000]
/-- tracebook/frac.size -/
def c31 : AFn := ⟨1, 10, [.t 2],
 (.seq
  (.reg [⟨some 2, none, .mov (.c (.int .u64 0))⟩])
  (.seq
   (.seq
    (.reg [⟨some 3, none, .mov (.t 0)⟩,
     ⟨some 4, none, .bin .lss (.t 3) (.c (.int .i64 0))⟩])
    (.cond (.t 4)
     (.seq
      (.reg [⟨some 5, none, .mov (.t 0)⟩,
       ⟨some 6, none, .conv (.int .u64) (.t 5)⟩,
       ⟨some 7, none, .un .neg (.t 6)⟩,
       ⟨some 2, none, .mov (.t 7)⟩])
      .ret)
     .skip))
   (.seq
    (.reg [⟨some 8, none, .mov (.t 0)⟩,
     ⟨some 9, none, .conv (.int .u64) (.t 8)⟩,
     ⟨some 2, none, .mov (.t 9)⟩])
    .ret))), none⟩
def k31 : List (List Nat) := []
def o31 : List Nat := [3000000]
def c32b0 : AC := (.seq
      (.seq
       (.reg [⟨some 5, none, .mov (.t 1)⟩,
        ⟨some 6, none, .bin .neq (.t 5) (.c (.int .u64 0))⟩])
       (.cond (.t 6)
        .skip
        (.exit 0)))
      (.block 1
       (.reg [⟨some 7, none, .mov (.t 1)⟩,
        ⟨some 8, none, .mov (.t 0)⟩,
        ⟨some 9, none, .mov (.t 1)⟩,
        ⟨some 10, none, .bin .rem (.t 8) (.t 9)⟩,
        ⟨some 0, none, .mov (.t 7)⟩,
        ⟨some 1, none, .mov (.t 10)⟩])))
/-- tracebook/frac.gcd -/
def c32 : AFn := ⟨2, 12, [.t 4],
 (.seq
  (.reg [⟨some 4, none, .mov (.c (.int .u64 0))⟩])
  (.seq
   (.block 0
    (.loop [0, 1]
     c32b0))
   (.seq
    (.reg [⟨some 11, none, .mov (.t 0)⟩,
     ⟨some 4, none, .mov (.t 11)⟩])
    .ret))), none⟩
def k32 : List (List Nat) := [[0, 1]]
def o32 : List Nat := [3000000]
/-- tracebook/frac.signed -/
def c33 : AFn := ⟨3, 27, [.c 6 2 true, .t 7],
 (.seq
  (.reg [⟨some 6, none, .alloc [(.int .i64 0), (.int .i64 0)]⟩,
   ⟨some 7, none, .mov (.c (.bool false))⟩])
  (.seq
   (.seq
    (.reg [⟨some 8, none, .mov (.t 1)⟩,
     ⟨some 9, none, .bin .gtr (.t 8) (.c (.int .u64 4611686018427387904))⟩,
     ⟨some 10, none, .mov (.t 9)⟩,
     ⟨some 11, some (10, false), .mov (.t 2)⟩,
     ⟨some 12, some (10, false), .bin .gtr (.t 11) (.c (.int .u64 1000000000000000))⟩,
     ⟨some 13, none, .pick (.t 10) (.c (.bool true)) (.t 12)⟩])
    (.cond (.t 13)
     (.seq
      (.reg [⟨some 14, none, .build [(.int .i64 0), (.int .i64 0)] []⟩,
       ⟨none, none, .store 2 (.t 6) (.t 14)⟩,
       ⟨some 7, none, .mov (.c (.bool false))⟩])
      .ret)
     .skip))
   (.seq
    (.seq
     (.reg [⟨some 15, none, .mov (.t 0)⟩])
     (.cond (.t 15)
      (.seq
       (.reg [⟨some 16, none, .mov (.t 1)⟩,
        ⟨some 17, none, .conv (.int .i64) (.t 16)⟩,
        ⟨some 18, none, .un .neg (.t 17)⟩,
        ⟨some 19, none, .mov (.t 2)⟩,
        ⟨some 20, none, .conv (.int .i64) (.t 19)⟩,
        ⟨some 21, none, .build [(.int .i64 0), (.int .i64 0)] [(0, 1, (.t 18)), (1, 1, (.t 20))]⟩,
        ⟨none, none, .store 2 (.t 6) (.t 21)⟩,
        ⟨some 7, none, .mov (.c (.bool true))⟩])
       .ret)
      .skip))
    (.seq
     (.reg [⟨some 22, none, .mov (.t 1)⟩,
      ⟨some 23, none, .conv (.int .i64) (.t 22)⟩,
      ⟨some 24, none, .mov (.t 2)⟩,
      ⟨some 25, none, .conv (.int .i64) (.t 24)⟩,
      ⟨some 26, none, .build [(.int .i64 0), (.int .i64 0)] [(0, 1, (.t 23)), (1, 1, (.t 25))]⟩,
      ⟨none, none, .store 2 (.t 6) (.t 26)⟩,
      ⟨some 7, none, .mov (.c (.bool true))⟩])
     .ret)))), none⟩
def k33 : List (List Nat) := []
def o33 : List Nat := [3000000]
/-- tracebook/tracebookref02.made -/
def c34 : AFn := ⟨2, 64, [.c 4 2 true, .t 5],
 (.seq
  (.reg [⟨some 2, none, .box (.t 0)⟩,
   ⟨some 3, none, .box (.t 1)⟩,
   ⟨some 4, none, .alloc [(.int .i64 0), (.int .i64 0)]⟩,
   ⟨some 5, none, .mov (.c (.bool false))⟩])
  (.seq
   (.reg [⟨some 11, none, .faddr 1 (.t 2)⟩,
    ⟨some 12, none, .load 2 true (.t 11)⟩,
    ⟨some 13, none, .load 2 true (.t 3)⟩,
    ⟨some 14, none, .call false 36 [(.t 12), (.t 13)]⟩,
    ⟨some 6, none, .alloc [(.int .u64 0), (.int .u64 0)]⟩,
    ⟨none, none, .store 2 (.t 6) (.t 14)⟩])
   (.seq
    (.reg [⟨some 16, none, .faddr 1 (.t 2)⟩,
     ⟨some 17, none, .load 2 true (.t 16)⟩,
     ⟨some 18, none, .load 2 true (.t 6)⟩,
     ⟨some 19, none, .call false 54 [(.t 17), (.t 18)]⟩,
     ⟨some 15, none, .mov (.t 19)⟩,
     ⟨some 20, none, .ext (.t 15) 0⟩,
     ⟨some 21, none, .ext (.t 15) 1⟩,
     ⟨some 7, none, .alloc [(.int .u64 0), (.int .u64 0)]⟩,
     ⟨some 8, none, .alloc [(.int .u64 0), (.int .u64 0)]⟩,
     ⟨none, none, .store 2 (.t 7) (.t 20)⟩,
     ⟨none, none, .store 2 (.t 8) (.t 21)⟩])
    (.seq
     (.reg [⟨some 23, none, .load 2 true (.t 3)⟩,
      ⟨some 24, none, .load 2 true (.t 6)⟩,
      ⟨some 25, none, .call false 54 [(.t 23), (.t 24)]⟩,
      ⟨some 22, none, .mov (.t 25)⟩,
      ⟨some 26, none, .ext (.t 22) 0⟩,
      ⟨some 27, none, .ext (.t 22) 1⟩,
      ⟨some 9, none, .alloc [(.int .u64 0), (.int .u64 0)]⟩,
      ⟨some 10, none, .alloc [(.int .u64 0), (.int .u64 0)]⟩,
      ⟨none, none, .store 2 (.t 9) (.t 26)⟩,
      ⟨none, none, .store 2 (.t 10) (.t 27)⟩])
     (.seq
      (.seq
       (.reg [⟨some 28, none, .faddr 0 (.t 7)⟩,
        ⟨some 29, none, .load 1 false (.t 28)⟩,
        ⟨some 30, none, .bin .neq (.t 29) (.c (.int .u64 0))⟩,
        ⟨some 31, none, .mov (.t 30)⟩,
        ⟨some 32, some (31, false), .faddr 1 (.t 7)⟩,
        ⟨some 33, some (31, false), .load 1 false (.t 32)⟩,
        ⟨some 34, some (31, false), .bin .gtr (.t 33) (.c (.int .u64 4611686018427387904))⟩,
        ⟨some 35, none, .pick (.t 31) (.c (.bool true)) (.t 34)⟩,
        ⟨some 36, none, .mov (.t 35)⟩,
        ⟨some 37, some (36, false), .faddr 0 (.t 9)⟩,
        ⟨some 38, some (36, false), .load 1 false (.t 37)⟩,
        ⟨some 39, some (36, false), .bin .neq (.t 38) (.c (.int .u64 0))⟩,
        ⟨some 40, none, .pick (.t 36) (.c (.bool true)) (.t 39)⟩,
        ⟨some 41, none, .mov (.t 40)⟩,
        ⟨some 42, some (41, false), .faddr 1 (.t 9)⟩,
        ⟨some 43, some (41, false), .load 1 false (.t 42)⟩,
        ⟨some 44, some (41, false), .bin .gtr (.t 43) (.c (.int .u64 1000000000000000))⟩,
        ⟨some 45, none, .pick (.t 41) (.c (.bool true)) (.t 44)⟩])
       (.cond (.t 45)
        (.seq
         (.reg [⟨some 46, none, .build [(.int .i64 0), (.int .i64 0)] []⟩,
          ⟨none, none, .store 2 (.t 4) (.t 46)⟩,
          ⟨some 5, none, .mov (.c (.bool false))⟩])
         .ret)
        .skip))
      (.seq
       (.seq
        (.reg [⟨some 47, none, .faddr 0 (.t 2)⟩,
         ⟨some 48, none, .load 1 false (.t 47)⟩])
        (.cond (.t 48)
         (.seq
          (.reg [⟨some 49, none, .faddr 1 (.t 7)⟩,
           ⟨some 50, none, .load 1 false (.t 49)⟩,
           ⟨some 51, none, .conv (.int .i64) (.t 50)⟩,
           ⟨some 52, none, .un .neg (.t 51)⟩,
           ⟨some 53, none, .faddr 1 (.t 9)⟩,
           ⟨some 54, none, .load 1 false (.t 53)⟩,
           ⟨some 55, none, .conv (.int .i64) (.t 54)⟩,
           ⟨some 56, none, .build [(.int .i64 0), (.int .i64 0)] [(0, 1, (.t 52)), (1, 1, (.t 55))]⟩,
           ⟨none, none, .store 2 (.t 4) (.t 56)⟩,
           ⟨some 5, none, .mov (.c (.bool true))⟩])
          .ret)
         .skip))
       (.seq
        (.reg [⟨some 57, none, .faddr 1 (.t 7)⟩,
         ⟨some 58, none, .load 1 false (.t 57)⟩,
         ⟨some 59, none, .conv (.int .i64) (.t 58)⟩,
         ⟨some 60, none, .faddr 1 (.t 9)⟩,
         ⟨some 61, none, .load 1 false (.t 60)⟩,
         ⟨some 62, none, .conv (.int .i64) (.t 61)⟩,
         ⟨some 63, none, .build [(.int .i64 0), (.int .i64 0)] [(0, 1, (.t 59)), (1, 1, (.t 62))]⟩,
         ⟨none, none, .store 2 (.t 4) (.t 63)⟩,
         ⟨some 5, none, .mov (.c (.bool true))⟩])
        .ret))))))), none⟩
def k34 : List (List Nat) := []
def o34 : List Nat := [3000000]
/-- tracebook/tracebookref02.Size -/
def c35 : AFn := ⟨1, 12, [.t 2],
 (.seq
  (.reg [⟨some 2, none, .mov (.c (.int .u64 0))⟩])
  (.seq
   (.seq
    (.reg [⟨some 3, none, .mov (.t 0)⟩,
     ⟨some 4, none, .bin .lss (.t 3) (.c (.int .i64 0))⟩])
    (.cond (.t 4)
     (.seq
      (.reg [⟨some 5, none, .mov (.t 0)⟩,
       ⟨some 6, none, .bin .add (.t 5) (.c (.int .i64 1))⟩,
       ⟨some 7, none, .un .neg (.t 6)⟩,
       ⟨some 8, none, .conv (.int .u64) (.t 7)⟩,
       ⟨some 9, none, .bin .add (.t 8) (.c (.int .u64 1))⟩,
       ⟨some 2, none, .mov (.t 9)⟩])
      .ret)
     .skip))
   (.seq
    (.reg [⟨some 10, none, .mov (.t 0)⟩,
     ⟨some 11, none, .conv (.int .u64) (.t 10)⟩,
     ⟨some 2, none, .mov (.t 11)⟩])
    .ret))), none⟩
def k35 : List (List Nat) := []
def o35 : List Nat := [3000000]
def c36b0 : AC := (.seq
      (.seq
       (.reg [⟨some 7, none, .load 2 true (.t 3)⟩,
        ⟨some 8, none, .build [(.int .u64 0), (.int .u64 0)] []⟩,
        ⟨some 9, none, .beqA true [.i, .i] (.t 7) (.t 8)⟩])
       (.cond (.t 9)
        .skip
        (.exit 0)))
      (.block 1
       (.seq
        (.reg [⟨some 11, none, .load 2 true (.t 2)⟩,
         ⟨some 12, none, .load 2 true (.t 3)⟩,
         ⟨some 13, none, .call false 54 [(.t 11), (.t 12)]⟩,
         ⟨some 10, none, .mov (.t 13)⟩,
         ⟨some 14, none, .ext (.t 10) 0⟩,
         ⟨some 15, none, .ext (.t 10) 1⟩,
         ⟨some 5, none, .alloc [(.int .u64 0), (.int .u64 0)]⟩,
         ⟨some 6, none, .alloc [(.int .u64 0), (.int .u64 0)]⟩,
         ⟨none, none, .store 2 (.t 5) (.t 14)⟩,
         ⟨none, none, .store 2 (.t 6) (.t 15)⟩])
        (.seq
         (.reg [⟨some 16, none, .load 2 true (.t 3)⟩,
          ⟨none, none, .store 2 (.t 2) (.t 16)⟩])
         (.reg [⟨some 17, none, .load 2 true (.t 6)⟩,
          ⟨none, none, .store 2 (.t 3) (.t 17)⟩])))))
/-- tracebook/tracebookref02.gcd -/
def c36 : AFn := ⟨2, 19, [.c 4 2 true],
 (.seq
  (.reg [⟨some 2, none, .box (.t 0)⟩,
   ⟨some 3, none, .box (.t 1)⟩,
   ⟨some 4, none, .alloc [(.int .u64 0), (.int .u64 0)]⟩])
  (.seq
   (.block 0
    (.loop [2, 3, 4]
     c36b0))
   (.seq
    (.reg [⟨some 18, none, .load 2 true (.t 2)⟩,
     ⟨none, none, .store 2 (.t 4) (.t 18)⟩])
    .ret))), none⟩
def k36 : List (List Nat) := [[2, 3, 4]]
def o36 : List Nat := [3000000]
/-- tracebook/num.Text -/
def c37 : AFn := ⟨1, 5, [.t 2],
 (.seq
  (.reg [⟨some 2, none, .mov (.c (.str []))⟩])
  (.seq
   (.reg [⟨some 3, none, .mov (.t 0)⟩,
    ⟨some 4, none, .call false 55 [(.t 3)]⟩,
    ⟨some 2, none, .mov (.t 4)⟩])
   .ret)), none⟩
def k37 : List (List Nat) := []
def o37 : List Nat := [3000000]
/-- tracebook/tracebookref02.digits -/
def c38 : AFn := ⟨1, 16, [.t 2],
 (.seq
  (.reg [⟨some 2, none, .mov (.c (.str []))⟩])
  (.seq
   (.seq
    (.reg [⟨some 3, none, .mov (.t 0)⟩,
     ⟨some 4, none, .bin .lss (.t 3) (.c (.int .u64 10))⟩])
    (.cond (.t 4)
     (.seq
      (.reg [⟨some 5, none, .mov (.t 0)⟩,
       ⟨some 6, none, .mov (.t 0)⟩,
       ⟨some 7, none, .bin .add (.t 6) (.c (.int .u64 1))⟩,
       ⟨some 8, none, .slc .string (.c (.str [48, 49, 50, 51, 52, 53, 54, 55, 56, 57])) (some (.t 5)) (some (.t 7)) none⟩,
       ⟨some 2, none, .mov (.t 8)⟩])
      .ret)
     .skip))
   (.seq
    (.reg [⟨some 9, none, .mov (.t 0)⟩,
     ⟨some 10, none, .bin .quo (.t 9) (.c (.int .u64 10))⟩,
     ⟨some 11, none, .call false 38 [(.t 10)]⟩,
     ⟨some 12, none, .mov (.t 0)⟩,
     ⟨some 13, none, .bin .rem (.t 12) (.c (.int .u64 10))⟩,
     ⟨some 14, none, .call false 38 [(.t 13)]⟩,
     ⟨some 15, none, .bin .add (.t 11) (.t 14)⟩,
     ⟨some 2, none, .mov (.t 15)⟩])
    .ret))), none⟩
def k38 : List (List Nat) := []
def o38 : List Nat := [3000000]
/-- tracebook/frac.times -/
def c39 : AFn := ⟨2, 25, [.c 4 2 true],
 (.seq
  (.reg [⟨some 4, none, .alloc [(.int .u64 0), (.int .u64 0)]⟩])
  (.seq
   (.reg [⟨some 9, none, .mov (.t 0)⟩,
    ⟨some 10, none, .call false 31 [(.t 9)]⟩,
    ⟨some 11, none, .mov (.t 1)⟩,
    ⟨some 12, none, .conv (.int .u64) (.t 11)⟩,
    ⟨some 13, none, .call false 56 [(.t 10), (.t 12)]⟩,
    ⟨some 8, none, .mov (.t 13)⟩,
    ⟨some 14, none, .ext (.t 8) 0⟩,
    ⟨some 15, none, .ext (.t 8) 1⟩,
    ⟨some 5, none, .mov (.t 14)⟩,
    ⟨some 6, none, .mov (.t 15)⟩])
   (.seq
    (.reg [⟨some 16, none, .mov (.t 5)⟩,
     ⟨some 17, none, .mov (.t 6)⟩,
     ⟨some 18, none, .build [(.int .u64 0), (.int .u64 0)] [(0, 1, (.t 16)), (1, 1, (.t 17))]⟩,
     ⟨some 7, none, .alloc [(.int .u64 0), (.int .u64 0)]⟩,
     ⟨none, none, .store 2 (.t 7) (.t 18)⟩])
    (.seq
     (.seq
      (.reg [⟨some 19, none, .mov (.t 0)⟩,
       ⟨some 20, none, .bin .lss (.t 19) (.c (.int .i64 0))⟩])
      (.cond (.t 20)
       (.seq
        (.reg [⟨some 21, none, .build [(.int .u64 0), (.int .u64 0)] []⟩,
         ⟨some 22, none, .load 2 true (.t 7)⟩,
         ⟨some 23, none, .call false 42 [(.t 21), (.t 22)]⟩,
         ⟨none, none, .store 2 (.t 4) (.t 23)⟩])
        .ret)
       .skip))
     (.seq
      (.reg [⟨some 24, none, .load 2 true (.t 7)⟩,
       ⟨none, none, .store 2 (.t 4) (.t 24)⟩])
      .ret))))), none⟩
def k39 : List (List Nat) := []
def o39 : List Nat := [3000000]
/-- (tracebook/frac.wide).plus -/
def c40 : AFn := ⟨2, 29, [.c 4 2 true],
 (.seq
  (.reg [⟨some 2, none, .box (.t 0)⟩,
   ⟨some 3, none, .box (.t 1)⟩,
   ⟨some 4, none, .alloc [(.int .u64 0), (.int .u64 0)]⟩])
  (.seq
   (.reg [⟨some 10, none, .faddr 1 (.t 2)⟩,
    ⟨some 11, none, .load 1 false (.t 10)⟩,
    ⟨some 12, none, .faddr 1 (.t 3)⟩,
    ⟨some 13, none, .load 1 false (.t 12)⟩,
    ⟨some 14, none, .call false 57 [(.t 11), (.t 13), (.c (.int .u64 0))]⟩,
    ⟨some 9, none, .mov (.t 14)⟩,
    ⟨some 15, none, .ext (.t 9) 0⟩,
    ⟨some 16, none, .ext (.t 9) 1⟩,
    ⟨some 5, none, .mov (.t 15)⟩,
    ⟨some 6, none, .mov (.t 16)⟩])
   (.seq
    (.reg [⟨some 18, none, .faddr 0 (.t 2)⟩,
     ⟨some 19, none, .load 1 false (.t 18)⟩,
     ⟨some 20, none, .faddr 0 (.t 3)⟩,
     ⟨some 21, none, .load 1 false (.t 20)⟩,
     ⟨some 22, none, .mov (.t 6)⟩,
     ⟨some 23, none, .call false 57 [(.t 19), (.t 21), (.t 22)]⟩,
     ⟨some 17, none, .mov (.t 23)⟩,
     ⟨some 24, none, .ext (.t 17) 0⟩,
     ⟨some 25, none, .ext (.t 17) 1⟩,
     ⟨some 7, none, .mov (.t 24)⟩,
     ⟨some 8, none, .mov (.t 25)⟩])
    (.seq
     (.reg [⟨some 26, none, .mov (.t 7)⟩,
      ⟨some 27, none, .mov (.t 5)⟩,
      ⟨some 28, none, .build [(.int .u64 0), (.int .u64 0)] [(0, 1, (.t 26)), (1, 1, (.t 27))]⟩,
      ⟨none, none, .store 2 (.t 4) (.t 28)⟩])
     .ret)))), none⟩
def k40 : List (List Nat) := []
def o40 : List Nat := [3000000]
/-- (tracebook/frac.wide).sign -/
def c41 : AFn := ⟨1, 10, [.t 2],
 (.seq
  (.reg [⟨some 1, none, .box (.t 0)⟩,
   ⟨some 2, none, .mov (.c (.int .i64 0))⟩])
  (.seq
   (.seq
    (.reg [⟨some 3, none, .faddr 0 (.t 1)⟩,
     ⟨some 4, none, .load 1 false (.t 3)⟩,
     ⟨some 5, none, .bin .shr (.t 4) (.c (.int .u64 63))⟩,
     ⟨some 6, none, .bin .eql (.t 5) (.c (.int .u64 1))⟩])
    (.cond (.t 6)
     (.seq
      (.reg [⟨some 2, none, .mov (.c (.int .i64 (-1)))⟩])
      .ret)
     .skip))
   (.seq
    (.seq
     (.reg [⟨some 7, none, .load 2 true (.t 1)⟩,
      ⟨some 8, none, .build [(.int .u64 0), (.int .u64 0)] []⟩,
      ⟨some 9, none, .beqA false [.i, .i] (.t 7) (.t 8)⟩])
     (.cond (.t 9)
      (.seq
       (.reg [⟨some 2, none, .mov (.c (.int .i64 0))⟩])
       .ret)
      .skip))
    (.seq
     (.reg [⟨some 2, none, .mov (.c (.int .i64 1))⟩])
     .ret)))), none⟩
def k41 : List (List Nat) := []
def o41 : List Nat := [3000000]
/-- (tracebook/frac.wide).minus -/
def c42 : AFn := ⟨2, 29, [.c 4 2 true],
 (.seq
  (.reg [⟨some 2, none, .box (.t 0)⟩,
   ⟨some 3, none, .box (.t 1)⟩,
   ⟨some 4, none, .alloc [(.int .u64 0), (.int .u64 0)]⟩])
  (.seq
   (.reg [⟨some 10, none, .faddr 1 (.t 2)⟩,
    ⟨some 11, none, .load 1 false (.t 10)⟩,
    ⟨some 12, none, .faddr 1 (.t 3)⟩,
    ⟨some 13, none, .load 1 false (.t 12)⟩,
    ⟨some 14, none, .call false 58 [(.t 11), (.t 13), (.c (.int .u64 0))]⟩,
    ⟨some 9, none, .mov (.t 14)⟩,
    ⟨some 15, none, .ext (.t 9) 0⟩,
    ⟨some 16, none, .ext (.t 9) 1⟩,
    ⟨some 5, none, .mov (.t 15)⟩,
    ⟨some 6, none, .mov (.t 16)⟩])
   (.seq
    (.reg [⟨some 18, none, .faddr 0 (.t 2)⟩,
     ⟨some 19, none, .load 1 false (.t 18)⟩,
     ⟨some 20, none, .faddr 0 (.t 3)⟩,
     ⟨some 21, none, .load 1 false (.t 20)⟩,
     ⟨some 22, none, .mov (.t 6)⟩,
     ⟨some 23, none, .call false 58 [(.t 19), (.t 21), (.t 22)]⟩,
     ⟨some 17, none, .mov (.t 23)⟩,
     ⟨some 24, none, .ext (.t 17) 0⟩,
     ⟨some 25, none, .ext (.t 17) 1⟩,
     ⟨some 7, none, .mov (.t 24)⟩,
     ⟨some 8, none, .mov (.t 25)⟩])
    (.seq
     (.reg [⟨some 26, none, .mov (.t 7)⟩,
      ⟨some 27, none, .mov (.t 5)⟩,
      ⟨some 28, none, .build [(.int .u64 0), (.int .u64 0)] [(0, 1, (.t 26)), (1, 1, (.t 27))]⟩,
      ⟨none, none, .store 2 (.t 4) (.t 28)⟩])
     .ret)))), none⟩
def k42 : List (List Nat) := []
def o42 : List Nat := [3000000]
/-- (tracebook/frac.wide).mod -/
def c43 : AFn := ⟨2, 11, [.t 4],
 (.seq
  (.reg [⟨some 2, none, .box (.t 0)⟩,
   ⟨some 4, none, .mov (.c (.int .u64 0))⟩])
  (.seq
   (.reg [⟨some 5, none, .faddr 0 (.t 2)⟩,
    ⟨some 6, none, .load 1 false (.t 5)⟩,
    ⟨some 7, none, .faddr 1 (.t 2)⟩,
    ⟨some 8, none, .load 1 false (.t 7)⟩,
    ⟨some 9, none, .mov (.t 1)⟩,
    ⟨some 10, none, .call false 59 [(.t 6), (.t 8), (.t 9)]⟩,
    ⟨some 4, none, .mov (.t 10)⟩])
   .ret)), none⟩
def k43 : List (List Nat) := []
def o43 : List Nat := [3000000]
/-- (tracebook/frac.wide).div -/
def c44 : AFn := ⟨2, 22, [.t 4, .t 5],
 (.seq
  (.reg [⟨some 2, none, .box (.t 0)⟩,
   ⟨some 4, none, .mov (.c (.int .u64 0))⟩,
   ⟨some 5, none, .mov (.c (.bool false))⟩])
  (.seq
   (.seq
    (.reg [⟨some 8, none, .faddr 0 (.t 2)⟩,
     ⟨some 9, none, .load 1 false (.t 8)⟩,
     ⟨some 10, none, .mov (.t 1)⟩,
     ⟨some 11, none, .bin .geq (.t 9) (.t 10)⟩])
    (.cond (.t 11)
     (.seq
      (.reg [⟨some 4, none, .mov (.c (.int .u64 0))⟩,
       ⟨some 5, none, .mov (.c (.bool false))⟩])
      .ret)
     .skip))
   (.seq
    (.reg [⟨some 13, none, .faddr 0 (.t 2)⟩,
     ⟨some 14, none, .load 1 false (.t 13)⟩,
     ⟨some 15, none, .faddr 1 (.t 2)⟩,
     ⟨some 16, none, .load 1 false (.t 15)⟩,
     ⟨some 17, none, .mov (.t 1)⟩,
     ⟨some 18, none, .call false 60 [(.t 14), (.t 16), (.t 17)]⟩,
     ⟨some 12, none, .mov (.t 18)⟩,
     ⟨some 19, none, .ext (.t 12) 0⟩,
     ⟨some 20, none, .ext (.t 12) 1⟩,
     ⟨some 6, none, .mov (.t 19)⟩,
     ⟨some 7, none, .mov (.t 20)⟩])
    (.seq
     (.reg [⟨some 21, none, .mov (.t 6)⟩,
      ⟨some 4, none, .mov (.t 21)⟩,
      ⟨some 5, none, .mov (.c (.bool true))⟩])
     .ret)))), none⟩
def k44 : List (List Nat) := []
def o44 : List Nat := [3000000]
/-- tracebook/frac.product -/
def c45 : AFn := ⟨2, 17, [.t 4, .t 5],
 (.seq
  (.reg [⟨some 4, none, .mov (.c (.int .u64 0))⟩,
   ⟨some 5, none, .mov (.c (.bool false))⟩])
  (.seq
   (.reg [⟨some 9, none, .mov (.t 0)⟩,
    ⟨some 10, none, .mov (.t 1)⟩,
    ⟨some 11, none, .call false 56 [(.t 9), (.t 10)]⟩,
    ⟨some 8, none, .mov (.t 11)⟩,
    ⟨some 12, none, .ext (.t 8) 0⟩,
    ⟨some 13, none, .ext (.t 8) 1⟩,
    ⟨some 6, none, .mov (.t 12)⟩,
    ⟨some 7, none, .mov (.t 13)⟩])
   (.seq
    (.reg [⟨some 14, none, .mov (.t 7)⟩,
     ⟨some 15, none, .mov (.t 6)⟩,
     ⟨some 16, none, .bin .eql (.t 15) (.c (.int .u64 0))⟩,
     ⟨some 4, none, .mov (.t 14)⟩,
     ⟨some 5, none, .mov (.t 16)⟩])
    .ret))), none⟩
def k45 : List (List Nat) := []
def o45 : List Nat := [3000000]
/-- tracebook/tracebookref02.sum -/
def c46 : AFn := ⟨2, 41, [.c 4 3 true],
 (.seq
  (.reg [⟨some 2, none, .box (.t 0)⟩,
   ⟨some 3, none, .box (.t 1)⟩,
   ⟨some 4, none, .alloc [(.bool false), (.int .u64 0), (.int .u64 0)]⟩])
  (.seq
   (.block 0
    (.seq
     (.reg [⟨some 6, none, .faddr 0 (.t 2)⟩,
      ⟨some 7, none, .load 1 false (.t 6)⟩,
      ⟨some 8, none, .faddr 0 (.t 3)⟩,
      ⟨some 9, none, .load 1 false (.t 8)⟩,
      ⟨some 10, none, .beq false (.t 7) (.t 9)⟩,
      ⟨some 5, none, .mov (.t 10)⟩])
     (.cond (.t 5)
      (.seq
       (.reg [⟨some 11, none, .faddr 0 (.t 2)⟩,
        ⟨some 12, none, .load 1 false (.t 11)⟩,
        ⟨some 13, none, .faddr 1 (.t 2)⟩,
        ⟨some 14, none, .load 2 true (.t 13)⟩,
        ⟨some 15, none, .faddr 1 (.t 3)⟩,
        ⟨some 16, none, .load 2 true (.t 15)⟩,
        ⟨some 17, none, .call false 61 [(.t 14), (.t 16)]⟩,
        ⟨some 18, none, .build [(.bool false), (.int .u64 0), (.int .u64 0)] [(0, 1, (.t 12)), (1, 2, (.t 17))]⟩,
        ⟨none, none, .store 3 (.t 4) (.t 18)⟩])
       .ret)
      (.seq
       (.reg [⟨some 20, none, .faddr 1 (.t 2)⟩,
        ⟨some 21, none, .load 2 true (.t 20)⟩,
        ⟨some 22, none, .faddr 1 (.t 3)⟩,
        ⟨some 23, none, .load 2 true (.t 22)⟩,
        ⟨some 24, none, .call false 62 [(.t 21), (.t 23)]⟩,
        ⟨some 19, none, .mov (.t 24)⟩])
       (.cond (.t 19)
        (.seq
         (.reg [⟨some 25, none, .faddr 0 (.t 3)⟩,
          ⟨some 26, none, .load 1 false (.t 25)⟩,
          ⟨some 27, none, .faddr 1 (.t 3)⟩,
          ⟨some 28, none, .load 2 true (.t 27)⟩,
          ⟨some 29, none, .faddr 1 (.t 2)⟩,
          ⟨some 30, none, .load 2 true (.t 29)⟩,
          ⟨some 31, none, .call false 63 [(.t 28), (.t 30)]⟩,
          ⟨some 32, none, .build [(.bool false), (.int .u64 0), (.int .u64 0)] [(0, 1, (.t 26)), (1, 2, (.t 31))]⟩,
          ⟨none, none, .store 3 (.t 4) (.t 32)⟩])
         .ret)
        .skip)))))
   (.seq
    (.reg [⟨some 33, none, .faddr 0 (.t 2)⟩,
     ⟨some 34, none, .load 1 false (.t 33)⟩,
     ⟨some 35, none, .faddr 1 (.t 2)⟩,
     ⟨some 36, none, .load 2 true (.t 35)⟩,
     ⟨some 37, none, .faddr 1 (.t 3)⟩,
     ⟨some 38, none, .load 2 true (.t 37)⟩,
     ⟨some 39, none, .call false 63 [(.t 36), (.t 38)]⟩,
     ⟨some 40, none, .build [(.bool false), (.int .u64 0), (.int .u64 0)] [(0, 1, (.t 34)), (1, 2, (.t 39))]⟩,
     ⟨none, none, .store 3 (.t 4) (.t 40)⟩])
    .ret))), none⟩
def k46 : List (List Nat) := []
def o46 : List Nat := [3000000]
/-- tracebook/tracebookref02.scaled -/
def c47 : AFn := ⟨2, 13, [.c 4 3 true],
 (.seq
  (.reg [⟨some 4, none, .alloc [(.bool false), (.int .u64 0), (.int .u64 0)]⟩])
  (.seq
   (.reg [⟨some 5, none, .mov (.t 0)⟩,
    ⟨some 6, none, .bin .lss (.t 5) (.c (.int .i64 0))⟩,
    ⟨some 7, none, .mov (.t 0)⟩,
    ⟨some 8, none, .call false 35 [(.t 7)]⟩,
    ⟨some 9, none, .mov (.t 1)⟩,
    ⟨some 10, none, .call false 35 [(.t 9)]⟩,
    ⟨some 11, none, .call false 48 [(.t 8), (.t 10)]⟩,
    ⟨some 12, none, .build [(.bool false), (.int .u64 0), (.int .u64 0)] [(0, 1, (.t 6)), (1, 2, (.t 11))]⟩,
    ⟨none, none, .store 3 (.t 4) (.t 12)⟩])
   .ret)), none⟩
def k47 : List (List Nat) := []
def o47 : List Nat := [3000000]
def c48b0 : AC := (.seq
        (.seq
         (.reg [⟨some 8, none, .mov (.t 6)⟩,
          ⟨some 9, none, .bin .geq (.t 8) (.c (.int .i64 0))⟩])
         (.cond (.t 9)
          .skip
          (.exit 0)))
        (.seq
         (.block 1
          (.seq
           (.reg [⟨some 12, none, .load 2 true (.t 5)⟩,
            ⟨some 13, none, .load 2 true (.t 5)⟩,
            ⟨some 14, none, .call false 61 [(.t 12), (.t 13)]⟩,
            ⟨none, none, .store 2 (.t 5) (.t 14)⟩])
           (.seq
            (.reg [⟨some 15, none, .mov (.t 1)⟩,
             ⟨some 16, none, .build [(.int .u64 0), (.int .u64 0)] [(1, 1, (.t 15))]⟩,
             ⟨some 17, none, .mov (.t 6)⟩,
             ⟨some 18, none, .call false 64 [(.t 16), (.t 17)]⟩,
             ⟨some 19, none, .bin .eql (.t 18) (.c (.int .u64 1))⟩])
            (.cond (.t 19)
             (.reg [⟨some 20, none, .load 2 true (.t 5)⟩,
              ⟨some 21, none, .mov (.t 0)⟩,
              ⟨some 22, none, .build [(.int .u64 0), (.int .u64 0)] [(1, 1, (.t 21))]⟩,
              ⟨some 23, none, .call false 61 [(.t 20), (.t 22)]⟩,
              ⟨none, none, .store 2 (.t 5) (.t 23)⟩])
             .skip))))
         (.reg [⟨some 10, none, .mov (.t 6)⟩,
          ⟨some 11, none, .bin .sub (.t 10) (.c (.int .i64 1))⟩,
          ⟨some 6, none, .mov (.t 11)⟩])))
/-- tracebook/tracebookref02.Times -/
def c48 : AFn := ⟨2, 25, [.c 4 2 true],
 (.seq
  (.reg [⟨some 4, none, .alloc [(.int .u64 0), (.int .u64 0)]⟩])
  (.seq
   (.reg [⟨some 7, none, .build [(.int .u64 0), (.int .u64 0)] []⟩,
    ⟨some 5, none, .alloc [(.int .u64 0), (.int .u64 0)]⟩,
    ⟨none, none, .store 2 (.t 5) (.t 7)⟩])
   (.seq
    (.seq
     (.reg [⟨some 6, none, .mov (.c (.int .i64 63))⟩])
     (.block 0
      (.loop [0, 1, 4, 5, 6]
       c48b0)))
    (.seq
     (.reg [⟨some 24, none, .load 2 true (.t 5)⟩,
      ⟨none, none, .store 2 (.t 4) (.t 24)⟩])
     .ret)))), none⟩
def k48 : List (List Nat) := [[0, 1, 4, 5, 6]]
def o48 : List Nat := [3000000]
/-- tracebook/tracebookref02.Negative -/
def c49 : AFn := ⟨1, 9, [.c 2 2 true],
 (.seq
  (.reg [⟨some 1, none, .box (.t 0)⟩,
   ⟨some 2, none, .alloc [(.int .i64 0), (.int .i64 0)]⟩])
  (.seq
   (.reg [⟨some 3, none, .faddr 0 (.t 1)⟩,
    ⟨some 4, none, .load 1 false (.t 3)⟩,
    ⟨some 5, none, .un .neg (.t 4)⟩,
    ⟨some 6, none, .faddr 1 (.t 1)⟩,
    ⟨some 7, none, .load 1 false (.t 6)⟩,
    ⟨some 8, none, .build [(.int .i64 0), (.int .i64 0)] [(0, 1, (.t 5)), (1, 1, (.t 7))]⟩,
    ⟨none, none, .store 2 (.t 2) (.t 8)⟩])
   .ret)), none⟩
def k49 : List (List Nat) := []
def o49 : List Nat := [3000000]
/-- tracebook/tracebookref02.usual -/
def c50 : AFn := ⟨1, 7, [.c 2 2 true],
 (.seq
  (.reg [⟨some 1, none, .box (.t 0)⟩,
   ⟨some 2, none, .alloc [(.int .i64 0), (.int .i64 0)]⟩])
  (.seq
   (.seq
    (.reg [⟨some 3, none, .load 2 true (.t 1)⟩,
     ⟨some 4, none, .call false 15 [(.t 3)]⟩])
    (.cond (.t 4)
     (.seq
      (.reg [⟨some 5, none, .load 2 true (.t 1)⟩,
       ⟨none, none, .store 2 (.t 2) (.t 5)⟩])
      .ret)
     .skip))
   (.seq
    (.reg [⟨some 6, none, .build [(.int .i64 0), (.int .i64 0)] [(0, 1, (.c (.int .i64 0))), (1, 1, (.c (.int .i64 1)))]⟩,
     ⟨none, none, .store 2 (.t 2) (.t 6)⟩])
    .ret))), none⟩
def k50 : List (List Nat) := []
def o50 : List Nat := [3000000]
def c51b0 : AC := (.seq
         (.reg [⟨some 15, none, .bin .lss (.t 14) (.t 13)⟩])
         (.seq
          (.cond (.t 15)
           .skip
           (.exit 0))
          (.seq
           (.block 1
            (.seq
             (.reg [⟨some 16, none, .iaddr (.slice 2) (.t 12) (.t 14)⟩,
              ⟨some 17, none, .load 2 true (.t 16)⟩,
              ⟨some 6, none, .alloc [(.int .i64 0), (.int .i64 0)]⟩,
              ⟨none, none, .store 2 (.t 6) (.t 17)⟩])
             (.seq
              (.seq
               (.reg [⟨some 18, none, .load 2 true (.t 6)⟩,
                ⟨some 19, none, .call false 13 [(.t 18)]⟩,
                ⟨some 20, none, .un .not (.t 19)⟩])
               (.cond (.t 20)
                (.seq
                 (.reg [⟨some 2, none, .mov (.c (.int .i64 0))⟩,
                  ⟨some 3, none, .mov (.c (.bool false))⟩])
                 .ret)
                .skip))
              (.seq
               (.reg [⟨some 22, none, .mov (.t 4)⟩,
                ⟨some 23, none, .mov (.t 4)⟩,
                ⟨some 24, none, .faddr 1 (.t 6)⟩,
                ⟨some 25, none, .load 1 false (.t 24)⟩,
                ⟨some 26, none, .conv (.int .u64) (.t 25)⟩,
                ⟨some 27, none, .call false 32 [(.t 23), (.t 26)]⟩,
                ⟨some 28, none, .bin .quo (.t 22) (.t 27)⟩,
                ⟨some 29, none, .faddr 1 (.t 6)⟩,
                ⟨some 30, none, .load 1 false (.t 29)⟩,
                ⟨some 31, none, .conv (.int .u64) (.t 30)⟩,
                ⟨some 32, none, .call false 45 [(.t 28), (.t 31)]⟩,
                ⟨some 21, none, .mov (.t 32)⟩,
                ⟨some 33, none, .ext (.t 21) 0⟩,
                ⟨some 34, none, .ext (.t 21) 1⟩,
                ⟨some 7, none, .mov (.t 33)⟩,
                ⟨some 8, none, .mov (.t 34)⟩])
               (.seq
                (.seq
                 (.reg [⟨some 35, none, .mov (.t 8)⟩,
                  ⟨some 36, none, .un .not (.t 35)⟩,
                  ⟨some 37, none, .mov (.t 36)⟩,
                  ⟨some 38, some (37, false), .mov (.t 7)⟩,
                  ⟨some 39, some (37, false), .bin .gtr (.t 38) (.c (.int .u64 1000000000000000))⟩,
                  ⟨some 40, none, .pick (.t 37) (.c (.bool true)) (.t 39)⟩])
                 (.cond (.t 40)
                  (.seq
                   (.reg [⟨some 2, none, .mov (.c (.int .i64 0))⟩,
                    ⟨some 3, none, .mov (.c (.bool false))⟩])
                   .ret)
                  .skip))
                (.reg [⟨some 41, none, .mov (.t 7)⟩,
                 ⟨some 4, none, .mov (.t 41)⟩]))))))
           (.reg [⟨some 42, none, .bin .add (.t 14) (.c (.int .i64 1))⟩,
            ⟨some 14, none, .mov (.t 42)⟩]))))
/-- tracebook/frac.denominator -/
def c51 : AFn := ⟨1, 45, [.t 2, .t 3],
 (.seq
  (.reg [⟨some 2, none, .mov (.c (.int .i64 0))⟩,
   ⟨some 3, none, .mov (.c (.bool false))⟩])
  (.seq
   (.seq
    (.reg [⟨some 9, none, .mov (.t 0)⟩,
     ⟨some 10, none, .len (.t 9)⟩,
     ⟨some 11, none, .bin .gtr (.t 10) (.c (.int .i64 20000))⟩])
    (.cond (.t 11)
     (.seq
      (.reg [⟨some 2, none, .mov (.c (.int .i64 0))⟩,
       ⟨some 3, none, .mov (.c (.bool false))⟩])
      .ret)
     .skip))
   (.seq
    (.reg [⟨some 4, none, .mov (.c (.int .u64 1))⟩])
    (.seq
     (.seq
      (.reg [⟨some 12, none, .mov (.t 0)⟩,
       ⟨some 13, none, .len (.t 12)⟩,
       ⟨some 14, none, .mov (.c (.int .i64 0))⟩])
      (.block 0
       (.loop [4, 12, 13, 14]
        c51b0)))
     (.seq
      (.reg [⟨some 43, none, .mov (.t 4)⟩,
       ⟨some 44, none, .conv (.int .i64) (.t 43)⟩,
       ⟨some 2, none, .mov (.t 44)⟩,
       ⟨some 3, none, .mov (.c (.bool true))⟩])
      .ret))))), none⟩
def k51 : List (List Nat) := [[4, 12, 13, 14]]
def o51 : List Nat := [3000000]
/-- tracebook/frac.reduce -/
def c52 : AFn := ⟨2, 42, [.c 4 2 true, .t 5],
 (.seq
  (.reg [⟨some 2, none, .box (.t 0)⟩,
   ⟨some 4, none, .alloc [(.int .i64 0), (.int .i64 0)]⟩,
   ⟨some 5, none, .mov (.c (.bool false))⟩])
  (.seq
   (.reg [⟨some 10, none, .load 2 true (.t 2)⟩,
    ⟨some 11, none, .call false 41 [(.t 10)]⟩,
    ⟨some 12, none, .bin .lss (.t 11) (.c (.int .i64 0))⟩,
    ⟨some 6, none, .mov (.t 12)⟩])
   (.seq
    (.seq
     (.reg [⟨some 13, none, .mov (.t 6)⟩])
     (.cond (.t 13)
      (.reg [⟨some 14, none, .build [(.int .u64 0), (.int .u64 0)] []⟩,
       ⟨some 15, none, .load 2 true (.t 2)⟩,
       ⟨some 16, none, .call false 42 [(.t 14), (.t 15)]⟩,
       ⟨none, none, .store 2 (.t 2) (.t 16)⟩])
      .skip))
    (.seq
     (.reg [⟨some 17, none, .load 2 true (.t 2)⟩,
      ⟨some 18, none, .mov (.t 1)⟩,
      ⟨some 19, none, .conv (.int .u64) (.t 18)⟩,
      ⟨some 20, none, .call false 43 [(.t 17), (.t 19)]⟩,
      ⟨some 21, none, .mov (.t 1)⟩,
      ⟨some 22, none, .conv (.int .u64) (.t 21)⟩,
      ⟨some 23, none, .call false 32 [(.t 20), (.t 22)]⟩,
      ⟨some 7, none, .mov (.t 23)⟩])
     (.seq
      (.reg [⟨some 25, none, .load 2 true (.t 2)⟩,
       ⟨some 26, none, .mov (.t 7)⟩,
       ⟨some 27, none, .call false 44 [(.t 25), (.t 26)]⟩,
       ⟨some 24, none, .mov (.t 27)⟩,
       ⟨some 28, none, .ext (.t 24) 0⟩,
       ⟨some 29, none, .ext (.t 24) 1⟩,
       ⟨some 8, none, .mov (.t 28)⟩,
       ⟨some 9, none, .mov (.t 29)⟩])
      (.seq
       (.seq
        (.reg [⟨some 30, none, .mov (.t 9)⟩,
         ⟨some 31, none, .un .not (.t 30)⟩])
        (.cond (.t 31)
         (.seq
          (.reg [⟨some 32, none, .build [(.int .i64 0), (.int .i64 0)] []⟩,
           ⟨none, none, .store 2 (.t 4) (.t 32)⟩,
           ⟨some 5, none, .mov (.c (.bool false))⟩])
          .ret)
         .skip))
       (.seq
        (.reg [⟨some 33, none, .mov (.t 6)⟩,
         ⟨some 34, none, .mov (.t 8)⟩,
         ⟨some 35, none, .mov (.t 1)⟩,
         ⟨some 36, none, .conv (.int .u64) (.t 35)⟩,
         ⟨some 37, none, .mov (.t 7)⟩,
         ⟨some 38, none, .bin .quo (.t 36) (.t 37)⟩,
         ⟨some 39, none, .call false 33 [(.t 33), (.t 34), (.t 38)]⟩,
         ⟨some 40, none, .ext (.t 39) 0⟩,
         ⟨some 41, none, .ext (.t 39) 1⟩,
         ⟨none, none, .store 2 (.t 4) (.t 40)⟩,
         ⟨some 5, none, .mov (.t 41)⟩])
        .ret))))))), none⟩
def k52 : List (List Nat) := []
def o52 : List Nat := [3000000]
def c53b0 : AC := (.seq
        (.seq
         (.reg [⟨some 8, none, .mov (.t 5)⟩,
          ⟨some 9, none, .mov (.t 0)⟩,
          ⟨some 10, none, .len (.t 9)⟩,
          ⟨some 11, none, .bin .lss (.t 8) (.t 10)⟩])
         (.cond (.t 11)
          .skip
          (.exit 0)))
        (.seq
         (.block 1
          (.seq
           (.seq
            (.reg [⟨some 14, none, .mov (.t 0)⟩,
             ⟨some 15, none, .mov (.t 5)⟩,
             ⟨some 16, none, .iaddr (.slice 2) (.t 14) (.t 15)⟩,
             ⟨some 17, none, .load 2 true (.t 16)⟩,
             ⟨some 18, none, .call false 15 [(.t 17)]⟩,
             ⟨some 19, none, .un .not (.t 18)⟩])
            (.cond (.t 19)
             (.seq
              (.reg [⟨some 2, none, .mov (.c (.int .i64 0))⟩,
               ⟨some 3, none, .mov (.c (.bool false))⟩])
              .ret)
             .skip))
           (.seq
            (.reg [⟨some 20, none, .mov (.t 4)⟩,
             ⟨some 21, none, .call false 35 [(.t 20)]⟩,
             ⟨some 22, none, .build [(.int .u64 0), (.int .u64 0)] [(1, 1, (.t 21))]⟩,
             ⟨some 23, none, .mov (.t 0)⟩,
             ⟨some 24, none, .mov (.t 5)⟩,
             ⟨some 25, none, .iaddr (.slice 2) (.t 23) (.t 24)⟩,
             ⟨some 26, none, .faddr 1 (.t 25)⟩,
             ⟨some 27, none, .load 1 false (.t 26)⟩,
             ⟨some 28, none, .call false 35 [(.t 27)]⟩,
             ⟨some 29, none, .build [(.int .u64 0), (.int .u64 0)] [(1, 1, (.t 28))]⟩,
             ⟨some 30, none, .call false 36 [(.t 22), (.t 29)]⟩,
             ⟨some 6, none, .alloc [(.int .u64 0), (.int .u64 0)]⟩,
             ⟨none, none, .store 2 (.t 6) (.t 30)⟩])
            (.seq
             (.reg [⟨some 31, none, .mov (.t 4)⟩,
              ⟨some 32, none, .call false 35 [(.t 31)]⟩,
              ⟨some 33, none, .faddr 1 (.t 6)⟩,
              ⟨some 34, none, .load 1 false (.t 33)⟩,
              ⟨some 35, none, .bin .quo (.t 32) (.t 34)⟩,
              ⟨some 36, none, .mov (.t 0)⟩,
              ⟨some 37, none, .mov (.t 5)⟩,
              ⟨some 38, none, .iaddr (.slice 2) (.t 36) (.t 37)⟩,
              ⟨some 39, none, .faddr 1 (.t 38)⟩,
              ⟨some 40, none, .load 1 false (.t 39)⟩,
              ⟨some 41, none, .call false 35 [(.t 40)]⟩,
              ⟨some 42, none, .call false 48 [(.t 35), (.t 41)]⟩,
              ⟨some 7, none, .alloc [(.int .u64 0), (.int .u64 0)]⟩,
              ⟨none, none, .store 2 (.t 7) (.t 42)⟩])
             (.seq
              (.seq
               (.reg [⟨some 43, none, .faddr 0 (.t 7)⟩,
                ⟨some 44, none, .load 1 false (.t 43)⟩,
                ⟨some 45, none, .bin .neq (.t 44) (.c (.int .u64 0))⟩,
                ⟨some 46, none, .mov (.t 45)⟩,
                ⟨some 47, some (46, false), .faddr 1 (.t 7)⟩,
                ⟨some 48, some (46, false), .load 1 false (.t 47)⟩,
                ⟨some 49, some (46, false), .bin .gtr (.t 48) (.c (.int .u64 1000000000000000))⟩,
                ⟨some 50, none, .pick (.t 46) (.c (.bool true)) (.t 49)⟩])
               (.cond (.t 50)
                (.seq
                 (.reg [⟨some 2, none, .mov (.c (.int .i64 0))⟩,
                  ⟨some 3, none, .mov (.c (.bool false))⟩])
                 .ret)
                .skip))
              (.reg [⟨some 51, none, .faddr 1 (.t 7)⟩,
               ⟨some 52, none, .load 1 false (.t 51)⟩,
               ⟨some 53, none, .conv (.int .i64) (.t 52)⟩,
               ⟨some 4, none, .mov (.t 53)⟩]))))))
         (.reg [⟨some 12, none, .mov (.t 5)⟩,
          ⟨some 13, none, .bin .add (.t 12) (.c (.int .i64 1))⟩,
          ⟨some 5, none, .mov (.t 13)⟩])))
/-- tracebook/tracebookref02.common -/
def c53 : AFn := ⟨1, 55, [.t 2, .t 3],
 (.seq
  (.reg [⟨some 2, none, .mov (.c (.int .i64 0))⟩,
   ⟨some 3, none, .mov (.c (.bool false))⟩])
  (.seq
   (.reg [⟨some 4, none, .mov (.c (.int .i64 1))⟩])
   (.seq
    (.seq
     (.reg [⟨some 5, none, .mov (.c (.int .i64 0))⟩])
     (.block 0
      (.loop [0, 4, 5]
       c53b0)))
    (.seq
     (.reg [⟨some 54, none, .mov (.t 4)⟩,
      ⟨some 2, none, .mov (.t 54)⟩,
      ⟨some 3, none, .mov (.c (.bool true))⟩])
     .ret)))), none⟩
def k53 : List (List Nat) := [[0, 4, 5]]
def o53 : List Nat := [3000000]
def c54b0 : AC := (.seq
        (.seq
         (.reg [⟨some 11, none, .mov (.t 8)⟩,
          ⟨some 12, none, .bin .geq (.t 11) (.c (.int .i64 0))⟩])
         (.cond (.t 12)
          .skip
          (.exit 0)))
        (.seq
         (.block 1
          (.seq
           (.reg [⟨some 15, none, .load 2 true (.t 6)⟩,
            ⟨some 16, none, .load 2 true (.t 6)⟩,
            ⟨some 17, none, .call false 61 [(.t 15), (.t 16)]⟩,
            ⟨none, none, .store 2 (.t 6) (.t 17)⟩])
           (.seq
            (.reg [⟨some 18, none, .load 2 true (.t 7)⟩,
             ⟨some 19, none, .load 2 true (.t 7)⟩,
             ⟨some 20, none, .call false 61 [(.t 18), (.t 19)]⟩,
             ⟨some 21, none, .load 2 true (.t 2)⟩,
             ⟨some 22, none, .mov (.t 8)⟩,
             ⟨some 23, none, .call false 64 [(.t 21), (.t 22)]⟩,
             ⟨some 24, none, .build [(.int .u64 0), (.int .u64 0)] [(1, 1, (.t 23))]⟩,
             ⟨some 25, none, .call false 61 [(.t 20), (.t 24)]⟩,
             ⟨none, none, .store 2 (.t 7) (.t 25)⟩])
            (.seq
             (.reg [⟨some 26, none, .load 2 true (.t 7)⟩,
              ⟨some 27, none, .load 2 true (.t 3)⟩,
              ⟨some 28, none, .call false 62 [(.t 26), (.t 27)]⟩,
              ⟨some 29, none, .un .not (.t 28)⟩])
             (.cond (.t 29)
              (.seq
               (.reg [⟨some 30, none, .load 2 true (.t 7)⟩,
                ⟨some 31, none, .load 2 true (.t 3)⟩,
                ⟨some 32, none, .call false 63 [(.t 30), (.t 31)]⟩,
                ⟨none, none, .store 2 (.t 7) (.t 32)⟩])
               (.reg [⟨some 33, none, .faddr 1 (.t 6)⟩,
                ⟨some 34, none, .load 1 false (.t 33)⟩,
                ⟨some 35, none, .bin .add (.t 34) (.c (.int .u64 1))⟩,
                ⟨some 36, none, .faddr 1 (.t 6)⟩,
                ⟨none, none, .store 1 (.t 36) (.t 35)⟩]))
              .skip)))))
         (.reg [⟨some 13, none, .mov (.t 8)⟩,
          ⟨some 14, none, .bin .sub (.t 13) (.c (.int .i64 1))⟩,
          ⟨some 8, none, .mov (.t 14)⟩])))
/-- tracebook/tracebookref02.divide -/
def c54 : AFn := ⟨2, 39, [.c 4 2 true, .c 5 2 true],
 (.seq
  (.reg [⟨some 2, none, .box (.t 0)⟩,
   ⟨some 3, none, .box (.t 1)⟩,
   ⟨some 4, none, .alloc [(.int .u64 0), (.int .u64 0)]⟩,
   ⟨some 5, none, .alloc [(.int .u64 0), (.int .u64 0)]⟩])
  (.seq
   (.reg [⟨some 9, none, .build [(.int .u64 0), (.int .u64 0)] []⟩,
    ⟨some 10, none, .build [(.int .u64 0), (.int .u64 0)] []⟩,
    ⟨some 6, none, .alloc [(.int .u64 0), (.int .u64 0)]⟩,
    ⟨some 7, none, .alloc [(.int .u64 0), (.int .u64 0)]⟩,
    ⟨none, none, .store 2 (.t 6) (.t 9)⟩,
    ⟨none, none, .store 2 (.t 7) (.t 10)⟩])
   (.seq
    (.seq
     (.reg [⟨some 8, none, .mov (.c (.int .i64 127))⟩])
     (.block 0
      (.loop [2, 3, 4, 5, 6, 7, 8]
       c54b0)))
    (.seq
     (.regd [1] [⟨some 37, none, .load 2 true (.t 6)⟩,
      ⟨some 38, none, .load 2 true (.t 7)⟩,
      ⟨none, none, .store 2 (.t 4) (.t 37)⟩,
      ⟨none, none, .store 2 (.t 5) (.t 38)⟩])
     .ret)))), none⟩
def k54 : List (List Nat) := [[2, 3, 4, 5, 6, 7, 8]]
def o54 : List Nat := [3000000]
/-- strconv.Itoa -/
def c55 : AFn := ⟨1, 0, [], .skip, some (.p xItoa)⟩
/-- math/bits.Mul64 -/
def c56 : AFn := ⟨2, 51, [.t 4, .t 5],
 (.seq
  (.reg [⟨some 4, none, .mov (.c (.int .u64 0))⟩,
   ⟨some 5, none, .mov (.c (.int .u64 0))⟩])
  (.seq
   (.reg [⟨some 14, none, .mov (.t 0)⟩,
    ⟨some 15, none, .bin .and (.t 14) (.c (.int .u64 4294967295))⟩,
    ⟨some 6, none, .mov (.t 15)⟩])
   (.seq
    (.reg [⟨some 16, none, .mov (.t 0)⟩,
     ⟨some 17, none, .bin .shr (.t 16) (.c (.int .u64 32))⟩,
     ⟨some 7, none, .mov (.t 17)⟩])
    (.seq
     (.reg [⟨some 18, none, .mov (.t 1)⟩,
      ⟨some 19, none, .bin .and (.t 18) (.c (.int .u64 4294967295))⟩,
      ⟨some 8, none, .mov (.t 19)⟩])
     (.seq
      (.reg [⟨some 20, none, .mov (.t 1)⟩,
       ⟨some 21, none, .bin .shr (.t 20) (.c (.int .u64 32))⟩,
       ⟨some 9, none, .mov (.t 21)⟩])
      (.seq
       (.reg [⟨some 22, none, .mov (.t 6)⟩,
        ⟨some 23, none, .mov (.t 8)⟩,
        ⟨some 24, none, .bin .mul (.t 22) (.t 23)⟩,
        ⟨some 10, none, .mov (.t 24)⟩])
       (.seq
        (.reg [⟨some 25, none, .mov (.t 7)⟩,
         ⟨some 26, none, .mov (.t 8)⟩,
         ⟨some 27, none, .bin .mul (.t 25) (.t 26)⟩,
         ⟨some 28, none, .mov (.t 10)⟩,
         ⟨some 29, none, .bin .shr (.t 28) (.c (.int .u64 32))⟩,
         ⟨some 30, none, .bin .add (.t 27) (.t 29)⟩,
         ⟨some 11, none, .mov (.t 30)⟩])
        (.seq
         (.reg [⟨some 31, none, .mov (.t 11)⟩,
          ⟨some 32, none, .bin .and (.t 31) (.c (.int .u64 4294967295))⟩,
          ⟨some 12, none, .mov (.t 32)⟩])
         (.seq
          (.reg [⟨some 33, none, .mov (.t 11)⟩,
           ⟨some 34, none, .bin .shr (.t 33) (.c (.int .u64 32))⟩,
           ⟨some 13, none, .mov (.t 34)⟩])
          (.seq
           (.reg [⟨some 35, none, .mov (.t 12)⟩,
            ⟨some 36, none, .mov (.t 6)⟩,
            ⟨some 37, none, .mov (.t 9)⟩,
            ⟨some 38, none, .bin .mul (.t 36) (.t 37)⟩,
            ⟨some 39, none, .bin .add (.t 35) (.t 38)⟩,
            ⟨some 12, none, .mov (.t 39)⟩])
           (.seq
            (.reg [⟨some 40, none, .mov (.t 7)⟩,
             ⟨some 41, none, .mov (.t 9)⟩,
             ⟨some 42, none, .bin .mul (.t 40) (.t 41)⟩,
             ⟨some 43, none, .mov (.t 13)⟩,
             ⟨some 44, none, .bin .add (.t 42) (.t 43)⟩,
             ⟨some 45, none, .mov (.t 12)⟩,
             ⟨some 46, none, .bin .shr (.t 45) (.c (.int .u64 32))⟩,
             ⟨some 47, none, .bin .add (.t 44) (.t 46)⟩,
             ⟨some 4, none, .mov (.t 47)⟩])
            (.seq
             (.reg [⟨some 48, none, .mov (.t 0)⟩,
              ⟨some 49, none, .mov (.t 1)⟩,
              ⟨some 50, none, .bin .mul (.t 48) (.t 49)⟩,
              ⟨some 5, none, .mov (.t 50)⟩])
             .ret)))))))))))), none⟩
def k56 : List (List Nat) := []
def o56 : List Nat := [3000000]
/-- math/bits.Rem64 -/
def c59 : AFn := ⟨3, 19, [.t 6],
 (.seq
  (.reg [⟨some 6, none, .mov (.c (.int .u64 0))⟩])
  (.seq
   (.reg [⟨some 10, none, .mov (.t 0)⟩,
    ⟨some 11, none, .mov (.t 2)⟩,
    ⟨some 12, none, .bin .rem (.t 10) (.t 11)⟩,
    ⟨some 13, none, .mov (.t 1)⟩,
    ⟨some 14, none, .mov (.t 2)⟩,
    ⟨some 15, none, .call false 60 [(.t 12), (.t 13), (.t 14)]⟩,
    ⟨some 9, none, .mov (.t 15)⟩,
    ⟨some 16, none, .ext (.t 9) 0⟩,
    ⟨some 17, none, .ext (.t 9) 1⟩,
    ⟨some 7, none, .mov (.t 16)⟩,
    ⟨some 8, none, .mov (.t 17)⟩])
   (.seq
    (.reg [⟨some 18, none, .mov (.t 8)⟩,
     ⟨some 6, none, .mov (.t 18)⟩])
    .ret))), none⟩
def k59 : List (List Nat) := []
def o59 : List Nat := [3000000]
def c60b0 : AC := (.seq
                       (.seq
                        (.reg [⟨some 102, none, .mov (.t 18)⟩,
                         ⟨some 103, none, .bin .geq (.t 102) (.c (.int .u64 4294967296))⟩,
                         ⟨some 104, none, .mov (.t 103)⟩,
                         ⟨some 105, some (104, false), .mov (.t 18)⟩,
                         ⟨some 106, some (104, false), .mov (.t 10)⟩,
                         ⟨some 107, some (104, false), .bin .mul (.t 105) (.t 106)⟩,
                         ⟨some 108, some (104, false), .mov (.t 16)⟩,
                         ⟨some 109, some (104, false), .bin .mul (.c (.int .u64 4294967296)) (.t 108)⟩,
                         ⟨some 110, some (104, false), .mov (.t 14)⟩,
                         ⟨some 111, some (104, false), .bin .add (.t 109) (.t 110)⟩,
                         ⟨some 112, some (104, false), .bin .gtr (.t 107) (.t 111)⟩,
                         ⟨some 113, none, .pick (.t 104) (.c (.bool true)) (.t 112)⟩])
                        (.cond (.t 113)
                         .skip
                         (.exit 2)))
                       (.block 3
                        (.seq
                         (.reg [⟨some 114, none, .mov (.t 18)⟩,
                          ⟨some 115, none, .bin .sub (.t 114) (.c (.int .u64 1))⟩,
                          ⟨some 18, none, .mov (.t 115)⟩])
                         (.seq
                          (.reg [⟨some 116, none, .mov (.t 16)⟩,
                           ⟨some 117, none, .mov (.t 9)⟩,
                           ⟨some 118, none, .bin .add (.t 116) (.t 117)⟩,
                           ⟨some 16, none, .mov (.t 118)⟩])
                          (.seq
                           (.reg [⟨some 119, none, .mov (.t 16)⟩,
                            ⟨some 120, none, .bin .geq (.t 119) (.c (.int .u64 4294967296))⟩])
                           (.cond (.t 120)
                            (.exit 2)
                            .skip))))))
def c60b1 : AC := (.seq
                   (.seq
                    (.reg [⟨some 67, none, .mov (.t 15)⟩,
                     ⟨some 68, none, .bin .geq (.t 67) (.c (.int .u64 4294967296))⟩,
                     ⟨some 69, none, .mov (.t 68)⟩,
                     ⟨some 70, some (69, false), .mov (.t 15)⟩,
                     ⟨some 71, some (69, false), .mov (.t 10)⟩,
                     ⟨some 72, some (69, false), .bin .mul (.t 70) (.t 71)⟩,
                     ⟨some 73, some (69, false), .mov (.t 16)⟩,
                     ⟨some 74, some (69, false), .bin .mul (.c (.int .u64 4294967296)) (.t 73)⟩,
                     ⟨some 75, some (69, false), .mov (.t 13)⟩,
                     ⟨some 76, some (69, false), .bin .add (.t 74) (.t 75)⟩,
                     ⟨some 77, some (69, false), .bin .gtr (.t 72) (.t 76)⟩,
                     ⟨some 78, none, .pick (.t 69) (.c (.bool true)) (.t 77)⟩])
                    (.cond (.t 78)
                     .skip
                     (.exit 0)))
                   (.block 1
                    (.seq
                     (.reg [⟨some 79, none, .mov (.t 15)⟩,
                      ⟨some 80, none, .bin .sub (.t 79) (.c (.int .u64 1))⟩,
                      ⟨some 15, none, .mov (.t 80)⟩])
                     (.seq
                      (.reg [⟨some 81, none, .mov (.t 16)⟩,
                       ⟨some 82, none, .mov (.t 9)⟩,
                       ⟨some 83, none, .bin .add (.t 81) (.t 82)⟩,
                       ⟨some 16, none, .mov (.t 83)⟩])
                      (.seq
                       (.reg [⟨some 84, none, .mov (.t 16)⟩,
                        ⟨some 85, none, .bin .geq (.t 84) (.c (.int .u64 4294967296))⟩])
                       (.cond (.t 85)
                        (.exit 0)
                        .skip))))))
def c60r0 : AC := (.seq
                 (.reg [⟨some 86, none, .mov (.t 11)⟩,
                  ⟨some 87, none, .bin .mul (.t 86) (.c (.int .u64 4294967296))⟩,
                  ⟨some 88, none, .mov (.t 13)⟩,
                  ⟨some 89, none, .bin .add (.t 87) (.t 88)⟩,
                  ⟨some 90, none, .mov (.t 15)⟩,
                  ⟨some 91, none, .mov (.t 2)⟩,
                  ⟨some 92, none, .bin .mul (.t 90) (.t 91)⟩,
                  ⟨some 93, none, .bin .sub (.t 89) (.t 92)⟩,
                  ⟨some 17, none, .mov (.t 93)⟩])
                 (.seq
                  (.reg [⟨some 94, none, .mov (.t 17)⟩,
                   ⟨some 95, none, .mov (.t 9)⟩,
                   ⟨some 96, none, .bin .quo (.t 94) (.t 95)⟩,
                   ⟨some 18, none, .mov (.t 96)⟩])
                  (.seq
                   (.reg [⟨some 97, none, .mov (.t 17)⟩,
                    ⟨some 98, none, .mov (.t 18)⟩,
                    ⟨some 99, none, .mov (.t 9)⟩,
                    ⟨some 100, none, .bin .mul (.t 98) (.t 99)⟩,
                    ⟨some 101, none, .bin .sub (.t 97) (.t 100)⟩,
                    ⟨some 16, none, .mov (.t 101)⟩])
                   (.seq
                    (.block 2
                     (.loop [2, 8, 9, 10, 14, 15, 16, 17, 18]
                      c60b0))
                    (.seq
                     (.reg [⟨some 121, none, .mov (.t 15)⟩,
                      ⟨some 122, none, .bin .mul (.t 121) (.c (.int .u64 4294967296))⟩,
                      ⟨some 123, none, .mov (.t 18)⟩,
                      ⟨some 124, none, .bin .add (.t 122) (.t 123)⟩,
                      ⟨some 125, none, .mov (.t 17)⟩,
                      ⟨some 126, none, .bin .mul (.t 125) (.c (.int .u64 4294967296))⟩,
                      ⟨some 127, none, .mov (.t 14)⟩,
                      ⟨some 128, none, .bin .add (.t 126) (.t 127)⟩,
                      ⟨some 129, none, .mov (.t 18)⟩,
                      ⟨some 130, none, .mov (.t 2)⟩,
                      ⟨some 131, none, .bin .mul (.t 129) (.t 130)⟩,
                      ⟨some 132, none, .bin .sub (.t 128) (.t 131)⟩,
                      ⟨some 133, none, .mov (.t 8)⟩,
                      ⟨some 134, none, .bin .shr (.t 132) (.t 133)⟩,
                      ⟨some 6, none, .mov (.t 124)⟩,
                      ⟨some 7, none, .mov (.t 134)⟩])
                     .ret)))))
/-- math/bits.Div64 -/
def c60 : AFn := ⟨3, 135, [.t 6, .t 7],
 (.seq
  (.reg [⟨some 6, none, .mov (.c (.int .u64 0))⟩,
   ⟨some 7, none, .mov (.c (.int .u64 0))⟩])
  (.seq
   (.seq
    (.reg [⟨some 19, none, .mov (.t 2)⟩,
     ⟨some 20, none, .bin .eql (.t 19) (.c (.int .u64 0))⟩])
    (.cond (.t 20)
     .stuck
     .skip))
   (.seq
    (.seq
     (.reg [⟨some 22, none, .mov (.t 2)⟩,
      ⟨some 23, none, .mov (.t 0)⟩,
      ⟨some 24, none, .bin .leq (.t 22) (.t 23)⟩])
     (.cond (.t 24)
      .stuck
      .skip))
    (.seq
     (.seq
      (.reg [⟨some 26, none, .mov (.t 0)⟩,
       ⟨some 27, none, .bin .eql (.t 26) (.c (.int .u64 0))⟩])
      (.cond (.t 27)
       (.seq
        (.reg [⟨some 28, none, .mov (.t 1)⟩,
         ⟨some 29, none, .mov (.t 2)⟩,
         ⟨some 30, none, .bin .quo (.t 28) (.t 29)⟩,
         ⟨some 31, none, .mov (.t 1)⟩,
         ⟨some 32, none, .mov (.t 2)⟩,
         ⟨some 33, none, .bin .rem (.t 31) (.t 32)⟩,
         ⟨some 6, none, .mov (.t 30)⟩,
         ⟨some 7, none, .mov (.t 33)⟩])
        .ret)
       .skip))
     (.seq
      (.reg [⟨some 34, none, .mov (.t 2)⟩,
       ⟨some 35, none, .call false 66 [(.t 34)]⟩,
       ⟨some 36, none, .conv (.int .u64) (.t 35)⟩,
       ⟨some 8, none, .mov (.t 36)⟩])
      (.seq
       (.reg [⟨some 37, none, .mov (.t 2)⟩,
        ⟨some 38, none, .mov (.t 8)⟩,
        ⟨some 39, none, .bin .shl (.t 37) (.t 38)⟩,
        ⟨some 2, none, .mov (.t 39)⟩])
       (.seq
        (.reg [⟨some 40, none, .mov (.t 2)⟩,
         ⟨some 41, none, .bin .shr (.t 40) (.c (.int .u64 32))⟩,
         ⟨some 9, none, .mov (.t 41)⟩])
        (.seq
         (.reg [⟨some 42, none, .mov (.t 2)⟩,
          ⟨some 43, none, .bin .and (.t 42) (.c (.int .u64 4294967295))⟩,
          ⟨some 10, none, .mov (.t 43)⟩])
         (.seq
          (.reg [⟨some 44, none, .mov (.t 0)⟩,
           ⟨some 45, none, .mov (.t 8)⟩,
           ⟨some 46, none, .bin .shl (.t 44) (.t 45)⟩,
           ⟨some 47, none, .mov (.t 1)⟩,
           ⟨some 48, none, .mov (.t 8)⟩,
           ⟨some 49, none, .bin .sub (.c (.int .u64 64)) (.t 48)⟩,
           ⟨some 50, none, .bin .shr (.t 47) (.t 49)⟩,
           ⟨some 51, none, .bin .or (.t 46) (.t 50)⟩,
           ⟨some 11, none, .mov (.t 51)⟩])
          (.seq
           (.reg [⟨some 52, none, .mov (.t 1)⟩,
            ⟨some 53, none, .mov (.t 8)⟩,
            ⟨some 54, none, .bin .shl (.t 52) (.t 53)⟩,
            ⟨some 12, none, .mov (.t 54)⟩])
           (.seq
            (.reg [⟨some 55, none, .mov (.t 12)⟩,
             ⟨some 56, none, .bin .shr (.t 55) (.c (.int .u64 32))⟩,
             ⟨some 13, none, .mov (.t 56)⟩])
            (.seq
             (.reg [⟨some 57, none, .mov (.t 12)⟩,
              ⟨some 58, none, .bin .and (.t 57) (.c (.int .u64 4294967295))⟩,
              ⟨some 14, none, .mov (.t 58)⟩])
             (.seq
              (.reg [⟨some 59, none, .mov (.t 11)⟩,
               ⟨some 60, none, .mov (.t 9)⟩,
               ⟨some 61, none, .bin .quo (.t 59) (.t 60)⟩,
               ⟨some 15, none, .mov (.t 61)⟩])
              (.seq
               (.reg [⟨some 62, none, .mov (.t 11)⟩,
                ⟨some 63, none, .mov (.t 15)⟩,
                ⟨some 64, none, .mov (.t 9)⟩,
                ⟨some 65, none, .bin .mul (.t 63) (.t 64)⟩,
                ⟨some 66, none, .bin .sub (.t 62) (.t 65)⟩,
                ⟨some 16, none, .mov (.t 66)⟩])
               (.seq
                (.block 0
                 (.loop [2, 8, 9, 10, 11, 13, 14, 15, 16]
                  c60b1))
                c60r0))))))))))))))), none⟩
def k60 : List (List Nat) := [[2, 8, 9, 10, 11, 13, 14, 15, 16], [2, 8, 9, 10, 14, 15, 16, 17, 18]]
def o60 : List Nat := [3000000]
/-- tracebook/tracebookref02.plus -/
def c61 : AFn := ⟨2, 27, [.c 4 2 true],
 (.seq
  (.reg [⟨some 2, none, .box (.t 0)⟩,
   ⟨some 3, none, .box (.t 1)⟩,
   ⟨some 4, none, .alloc [(.int .u64 0), (.int .u64 0)]⟩])
  (.seq
   (.reg [⟨some 6, none, .faddr 0 (.t 2)⟩,
    ⟨some 7, none, .load 1 false (.t 6)⟩,
    ⟨some 8, none, .faddr 0 (.t 3)⟩,
    ⟨some 9, none, .load 1 false (.t 8)⟩,
    ⟨some 10, none, .bin .add (.t 7) (.t 9)⟩,
    ⟨some 11, none, .faddr 1 (.t 2)⟩,
    ⟨some 12, none, .load 1 false (.t 11)⟩,
    ⟨some 13, none, .faddr 1 (.t 3)⟩,
    ⟨some 14, none, .load 1 false (.t 13)⟩,
    ⟨some 15, none, .bin .add (.t 12) (.t 14)⟩,
    ⟨some 16, none, .build [(.int .u64 0), (.int .u64 0)] [(0, 1, (.t 10)), (1, 1, (.t 15))]⟩,
    ⟨some 5, none, .alloc [(.int .u64 0), (.int .u64 0)]⟩,
    ⟨none, none, .store 2 (.t 5) (.t 16)⟩])
   (.seq
    (.seq
     (.reg [⟨some 17, none, .faddr 1 (.t 5)⟩,
      ⟨some 18, none, .load 1 false (.t 17)⟩,
      ⟨some 19, none, .faddr 1 (.t 2)⟩,
      ⟨some 20, none, .load 1 false (.t 19)⟩,
      ⟨some 21, none, .bin .lss (.t 18) (.t 20)⟩])
     (.cond (.t 21)
      (.reg [⟨some 22, none, .faddr 0 (.t 5)⟩,
       ⟨some 23, none, .load 1 false (.t 22)⟩,
       ⟨some 24, none, .bin .add (.t 23) (.c (.int .u64 1))⟩,
       ⟨some 25, none, .faddr 0 (.t 5)⟩,
       ⟨none, none, .store 1 (.t 25) (.t 24)⟩])
      .skip))
    (.seq
     (.reg [⟨some 26, none, .load 2 true (.t 5)⟩,
      ⟨none, none, .store 2 (.t 4) (.t 26)⟩])
     .ret)))), none⟩
def k61 : List (List Nat) := []
def o61 : List Nat := [3000000]
/-- tracebook/tracebookref02.less -/
def c62 : AFn := ⟨2, 24, [.t 4],
 (.seq
  (.reg [⟨some 2, none, .box (.t 0)⟩,
   ⟨some 3, none, .box (.t 1)⟩,
   ⟨some 4, none, .mov (.c (.bool false))⟩])
  (.seq
   (.reg [⟨some 5, none, .faddr 0 (.t 2)⟩,
    ⟨some 6, none, .load 1 false (.t 5)⟩,
    ⟨some 7, none, .faddr 0 (.t 3)⟩,
    ⟨some 8, none, .load 1 false (.t 7)⟩,
    ⟨some 9, none, .bin .lss (.t 6) (.t 8)⟩,
    ⟨some 10, none, .mov (.t 9)⟩,
    ⟨some 11, some (10, false), .faddr 0 (.t 2)⟩,
    ⟨some 12, some (10, false), .load 1 false (.t 11)⟩,
    ⟨some 13, some (10, false), .faddr 0 (.t 3)⟩,
    ⟨some 14, some (10, false), .load 1 false (.t 13)⟩,
    ⟨some 15, some (10, false), .bin .eql (.t 12) (.t 14)⟩,
    ⟨some 16, some (10, false), .mov (.t 15)⟩,
    ⟨some 17, some (16, true), .faddr 1 (.t 2)⟩,
    ⟨some 18, some (16, true), .load 1 false (.t 17)⟩,
    ⟨some 19, some (16, true), .faddr 1 (.t 3)⟩,
    ⟨some 20, some (16, true), .load 1 false (.t 19)⟩,
    ⟨some 21, some (16, true), .bin .lss (.t 18) (.t 20)⟩,
    ⟨some 22, some (10, false), .pick (.t 16) (.t 21) (.c (.bool false))⟩,
    ⟨some 23, none, .pick (.t 10) (.c (.bool true)) (.t 22)⟩,
    ⟨some 4, none, .mov (.t 23)⟩])
   .ret)), none⟩
def k62 : List (List Nat) := []
def o62 : List Nat := [3000000]
/-- tracebook/tracebookref02.minus -/
def c63 : AFn := ⟨2, 27, [.c 4 2 true],
 (.seq
  (.reg [⟨some 2, none, .box (.t 0)⟩,
   ⟨some 3, none, .box (.t 1)⟩,
   ⟨some 4, none, .alloc [(.int .u64 0), (.int .u64 0)]⟩])
  (.seq
   (.reg [⟨some 6, none, .faddr 0 (.t 2)⟩,
    ⟨some 7, none, .load 1 false (.t 6)⟩,
    ⟨some 8, none, .faddr 0 (.t 3)⟩,
    ⟨some 9, none, .load 1 false (.t 8)⟩,
    ⟨some 10, none, .bin .sub (.t 7) (.t 9)⟩,
    ⟨some 11, none, .faddr 1 (.t 2)⟩,
    ⟨some 12, none, .load 1 false (.t 11)⟩,
    ⟨some 13, none, .faddr 1 (.t 3)⟩,
    ⟨some 14, none, .load 1 false (.t 13)⟩,
    ⟨some 15, none, .bin .sub (.t 12) (.t 14)⟩,
    ⟨some 16, none, .build [(.int .u64 0), (.int .u64 0)] [(0, 1, (.t 10)), (1, 1, (.t 15))]⟩,
    ⟨some 5, none, .alloc [(.int .u64 0), (.int .u64 0)]⟩,
    ⟨none, none, .store 2 (.t 5) (.t 16)⟩])
   (.seq
    (.seq
     (.reg [⟨some 17, none, .faddr 1 (.t 2)⟩,
      ⟨some 18, none, .load 1 false (.t 17)⟩,
      ⟨some 19, none, .faddr 1 (.t 3)⟩,
      ⟨some 20, none, .load 1 false (.t 19)⟩,
      ⟨some 21, none, .bin .lss (.t 18) (.t 20)⟩])
     (.cond (.t 21)
      (.reg [⟨some 22, none, .faddr 0 (.t 5)⟩,
       ⟨some 23, none, .load 1 false (.t 22)⟩,
       ⟨some 24, none, .bin .sub (.t 23) (.c (.int .u64 1))⟩,
       ⟨some 25, none, .faddr 0 (.t 5)⟩,
       ⟨none, none, .store 1 (.t 25) (.t 24)⟩])
      .skip))
    (.seq
     (.reg [⟨some 26, none, .load 2 true (.t 5)⟩,
      ⟨none, none, .store 2 (.t 4) (.t 26)⟩])
     .ret)))), none⟩
def k63 : List (List Nat) := []
def o63 : List Nat := [3000000]
/-- tracebook/tracebookref02.bit -/
def c64 : AFn := ⟨2, 20, [.t 4],
 (.seq
  (.reg [⟨some 2, none, .box (.t 0)⟩,
   ⟨some 4, none, .mov (.c (.int .u64 0))⟩])
  (.seq
   (.seq
    (.reg [⟨some 5, none, .mov (.t 1)⟩,
     ⟨some 6, none, .bin .geq (.t 5) (.c (.int .i64 64))⟩])
    (.cond (.t 6)
     (.seq
      (.reg [⟨some 7, none, .faddr 0 (.t 2)⟩,
       ⟨some 8, none, .load 1 false (.t 7)⟩,
       ⟨some 9, none, .mov (.t 1)⟩,
       ⟨some 10, none, .bin .sub (.t 9) (.c (.int .i64 64))⟩,
       ⟨some 11, none, .conv (.int .u64) (.t 10)⟩,
       ⟨some 12, none, .bin .shr (.t 8) (.t 11)⟩,
       ⟨some 13, none, .bin .rem (.t 12) (.c (.int .u64 2))⟩,
       ⟨some 4, none, .mov (.t 13)⟩])
      .ret)
     .skip))
   (.seq
    (.reg [⟨some 14, none, .faddr 1 (.t 2)⟩,
     ⟨some 15, none, .load 1 false (.t 14)⟩,
     ⟨some 16, none, .mov (.t 1)⟩,
     ⟨some 17, none, .conv (.int .u64) (.t 16)⟩,
     ⟨some 18, none, .bin .shr (.t 15) (.t 17)⟩,
     ⟨some 19, none, .bin .rem (.t 18) (.c (.int .u64 2))⟩,
     ⟨some 4, none, .mov (.t 19)⟩])
    .ret))), none⟩
def k64 : List (List Nat) := []
def o64 : List Nat := [3000000]
/-- internal/strconv.Itoa -/
def c65 : AFn := ⟨1, 5, [.t 2],
 (.seq
  (.reg [⟨some 2, none, .mov (.c (.str []))⟩])
  (.seq
   (.reg [⟨some 3, none, .mov (.t 0)⟩,
    ⟨some 4, none, .call false 67 [(.t 3), (.c (.int .i64 10))]⟩,
    ⟨some 2, none, .mov (.t 4)⟩])
   .ret)), none⟩
def k65 : List (List Nat) := []
def o65 : List Nat := [3000000]
/-- math/bits.LeadingZeros64 -/
def c66 : AFn := ⟨1, 6, [.t 2],
 (.seq
  (.reg [⟨some 2, none, .mov (.c (.int .i64 0))⟩])
  (.seq
   (.reg [⟨some 3, none, .mov (.t 0)⟩,
    ⟨some 4, none, .call false 68 [(.t 3)]⟩,
    ⟨some 5, none, .bin .sub (.c (.int .i64 64)) (.t 4)⟩,
    ⟨some 2, none, .mov (.t 5)⟩])
   .ret)), none⟩
def k66 : List (List Nat) := []
def o66 : List Nat := [3000000]
/-- internal/strconv.FormatInt -/
def c67 : AFn := ⟨2, 54, [.t 4],
 (.seq
  (.reg [⟨some 4, none, .mov (.c (.str []))⟩])
  (.seq
   (.seq
    (.reg [⟨some 10, none, .mov (.t 1)⟩,
     ⟨some 11, none, .bin .eql (.t 10) (.c (.int .i64 10))⟩])
    (.cond (.t 11)
     (.seq
      (.seq
       (.reg [⟨some 12, none, .mov (.t 0)⟩,
        ⟨some 13, none, .bin .leq (.c (.int .i64 0)) (.t 12)⟩,
        ⟨some 14, none, .mov (.t 13)⟩,
        ⟨some 15, some (14, true), .mov (.t 0)⟩,
        ⟨some 16, some (14, true), .bin .lss (.t 15) (.c (.int .i64 100))⟩,
        ⟨some 17, none, .pick (.t 14) (.t 16) (.c (.bool false))⟩])
       (.cond (.t 17)
        (.seq
         (.reg [⟨some 18, none, .mov (.t 0)⟩,
          ⟨some 19, none, .call false 69 [(.t 18)]⟩,
          ⟨some 4, none, .mov (.t 19)⟩])
         .ret)
        .skip))
      (.seq
       (.reg [⟨some 5, none, .alloca 1 24 [(.int .u8 0), (.int .u8 0), (.int .u8 0), (.int .u8 0), (.int .u8 0), (.int .u8 0), (.int .u8 0), (.int .u8 0), (.int .u8 0), (.int .u8 0), (.int .u8 0), (.int .u8 0), (.int .u8 0), (.int .u8 0), (.int .u8 0), (.int .u8 0), (.int .u8 0), (.int .u8 0), (.int .u8 0), (.int .u8 0), (.int .u8 0), (.int .u8 0), (.int .u8 0), (.int .u8 0)]⟩])
       (.seq
        (.reg [⟨some 20, none, .mov (.t 0)⟩,
         ⟨some 21, none, .conv (.int .u64) (.t 20)⟩,
         ⟨some 6, none, .mov (.t 21)⟩])
        (.seq
         (.seq
          (.reg [⟨some 22, none, .mov (.t 0)⟩,
           ⟨some 23, none, .bin .lss (.t 22) (.c (.int .i64 0))⟩])
          (.cond (.t 23)
           (.reg [⟨some 24, none, .mov (.t 6)⟩,
            ⟨some 25, none, .un .neg (.t 24)⟩,
            ⟨some 6, none, .mov (.t 25)⟩])
           .skip))
         (.seq
          (.reg [⟨some 26, none, .mov (.t 6)⟩,
           ⟨some 27, none, .call false 70 [(.t 26)]⟩,
           ⟨some 7, none, .mov (.t 27)⟩])
          (.seq
           .stuck
           (.seq
            (.seq
             (.reg [⟨some 33, none, .mov (.t 0)⟩,
              ⟨some 34, none, .bin .lss (.t 33) (.c (.int .i64 0))⟩])
             (.cond (.t 34)
              (.seq
               (.reg [⟨some 35, none, .iaddr (.array 24 1) (.t 5) (.c (.int .i64 0))⟩,
                ⟨none, none, .store 1 (.t 35) (.c (.int .u8 45))⟩])
               (.seq
                (.reg [⟨some 36, none, .mov (.t 7)⟩,
                 ⟨some 37, none, .bin .add (.c (.int .i64 1)) (.t 36)⟩,
                 ⟨some 38, none, .asl 1 24 (.t 5) (some (.t 37))⟩,
                 ⟨some 39, none, .conv .toStr (.t 38)⟩,
                 ⟨some 4, none, .mov (.t 39)⟩])
                .ret))
              .skip))
            (.seq
             .stuck
             .ret))))))))
     .skip))
   (.seq
    (.reg [⟨some 45, none, .mov (.t 0)⟩,
     ⟨some 46, none, .conv (.int .u64) (.t 45)⟩,
     ⟨some 47, none, .mov (.t 1)⟩,
     ⟨some 48, none, .mov (.t 0)⟩,
     ⟨some 49, none, .bin .lss (.t 48) (.c (.int .i64 0))⟩,
     ⟨some 50, none, .call false 72 [(.c .nilS), (.t 46), (.t 47), (.t 49), (.c (.bool false))]⟩,
     ⟨some 44, none, .mov (.t 50)⟩,
     ⟨some 51, none, .ext (.t 44) 0⟩,
     ⟨some 52, none, .ext (.t 44) 1⟩,
     ⟨some 8, none, .mov (.t 51)⟩,
     ⟨some 9, none, .mov (.t 52)⟩])
    (.seq
     (.reg [⟨some 53, none, .mov (.t 9)⟩,
      ⟨some 4, none, .mov (.t 53)⟩])
     .ret)))), none⟩
def k67 : List (List Nat) := []
def o67 : List Nat := [3000000]
/-- math/bits.Len64 -/
def c68 : AFn := ⟨1, 25, [.t 2],
 (.seq
  (.reg [⟨some 2, none, .mov (.c (.int .i64 0))⟩])
  (.seq
   (.seq
    (.reg [⟨some 3, none, .mov (.t 0)⟩,
     ⟨some 4, none, .bin .geq (.t 3) (.c (.int .u64 4294967296))⟩])
    (.cond (.t 4)
     (.seq
      (.reg [⟨some 5, none, .mov (.t 0)⟩,
       ⟨some 6, none, .bin .shr (.t 5) (.c (.int .u64 32))⟩,
       ⟨some 0, none, .mov (.t 6)⟩])
      (.reg [⟨some 2, none, .mov (.c (.int .i64 32))⟩]))
     .skip))
   (.seq
    (.seq
     (.reg [⟨some 7, none, .mov (.t 0)⟩,
      ⟨some 8, none, .bin .geq (.t 7) (.c (.int .u64 65536))⟩])
     (.cond (.t 8)
      (.seq
       (.reg [⟨some 9, none, .mov (.t 0)⟩,
        ⟨some 10, none, .bin .shr (.t 9) (.c (.int .u64 16))⟩,
        ⟨some 0, none, .mov (.t 10)⟩])
       (.reg [⟨some 11, none, .mov (.t 2)⟩,
        ⟨some 12, none, .bin .add (.t 11) (.c (.int .i64 16))⟩,
        ⟨some 2, none, .mov (.t 12)⟩]))
      .skip))
    (.seq
     (.seq
      (.reg [⟨some 13, none, .mov (.t 0)⟩,
       ⟨some 14, none, .bin .geq (.t 13) (.c (.int .u64 256))⟩])
      (.cond (.t 14)
       (.seq
        (.reg [⟨some 15, none, .mov (.t 0)⟩,
         ⟨some 16, none, .bin .shr (.t 15) (.c (.int .u64 8))⟩,
         ⟨some 0, none, .mov (.t 16)⟩])
        (.reg [⟨some 17, none, .mov (.t 2)⟩,
         ⟨some 18, none, .bin .add (.t 17) (.c (.int .i64 8))⟩,
         ⟨some 2, none, .mov (.t 18)⟩]))
       .skip))
     (.seq
      (.reg [⟨some 19, none, .mov (.t 2)⟩,
       ⟨some 20, none, .mov (.t 0)⟩,
       ⟨some 21, none, .conv (.int .u8) (.t 20)⟩,
       ⟨some 22, none, .idxS (.c (.str [0, 1, 2, 2, 3, 3, 3, 3, 4, 4, 4, 4, 4, 4, 4, 4, 5, 5, 5, 5, 5, 5, 5, 5, 5, 5, 5, 5, 5, 5, 5, 5, 6, 6, 6, 6, 6, 6, 6, 6, 6, 6, 6, 6, 6, 6, 6, 6, 6, 6, 6, 6, 6, 6, 6, 6, 6, 6, 6, 6, 6, 6, 6, 6, 7, 7, 7, 7, 7, 7, 7, 7, 7, 7, 7, 7, 7, 7, 7, 7, 7, 7, 7, 7, 7, 7, 7, 7, 7, 7, 7, 7, 7, 7, 7, 7, 7, 7, 7, 7, 7, 7, 7, 7, 7, 7, 7, 7, 7, 7, 7, 7, 7, 7, 7, 7, 7, 7, 7, 7, 7, 7, 7, 7, 7, 7, 7, 7, 8, 8, 8, 8, 8, 8, 8, 8, 8, 8, 8, 8, 8, 8, 8, 8, 8, 8, 8, 8, 8, 8, 8, 8, 8, 8, 8, 8, 8, 8, 8, 8, 8, 8, 8, 8, 8, 8, 8, 8, 8, 8, 8, 8, 8, 8, 8, 8, 8, 8, 8, 8, 8, 8, 8, 8, 8, 8, 8, 8, 8, 8, 8, 8, 8, 8, 8, 8, 8, 8, 8, 8, 8, 8, 8, 8, 8, 8, 8, 8, 8, 8, 8, 8, 8, 8, 8, 8, 8, 8, 8, 8, 8, 8, 8, 8, 8, 8, 8, 8, 8, 8, 8, 8, 8, 8, 8, 8, 8, 8, 8, 8, 8, 8, 8, 8, 8, 8, 8, 8, 8, 8, 8, 8, 8, 8, 8, 8])) (.t 21)⟩,
       ⟨some 23, none, .conv (.int .i64) (.t 22)⟩,
       ⟨some 24, none, .bin .add (.t 19) (.t 23)⟩,
       ⟨some 2, none, .mov (.t 24)⟩])
      .ret))))), none⟩
def k68 : List (List Nat) := []
def o68 : List Nat := [3000000]
def c57 : AFn := ⟨1, 0, [], .skip, some (.p xAdd64)⟩
def c58 : AFn := ⟨1, 0, [], .skip, some (.p xSub64)⟩
def tbl : List (Nat × AFn) := [(58, c58), (57, c57), (3, c3), (4, c4), (5, c5), (6, c6), (7, c7), (8, c8), (9, c9), (10, c10), (11, c11), (12, c12), (13, c13), (14, c14), (15, c15), (16, c16), (17, c17), (18, c18), (19, c19), (20, c20), (21, c21), (22, c22), (23, c23), (24, c24), (25, c25), (26, c26), (27, c27), (28, c28), (29, c29), (30, c30), (31, c31), (32, c32), (33, c33), (34, c34), (35, c35), (36, c36), (37, c37), (38, c38), (39, c39), (40, c40), (41, c41), (42, c42), (43, c43), (44, c44), (45, c45), (46, c46), (47, c47), (48, c48), (49, c49), (50, c50), (51, c51), (52, c52), (53, c53), (54, c54), (55, c55), (56, c56), (59, c59), (60, c60), (61, c61), (62, c62), (63, c63), (64, c64), (65, c65), (66, c66), (67, c67), (68, c68)]
theorem d3 : digFn Tryd.prog o3 k3 Tryd.f3 = some c3 := by kernel_rfl
theorem d4 : digFn Tryd.prog o4 k4 Tryd.f4 = some c4 := by kernel_rfl
theorem d5 : digFn Tryd.prog o5 k5 Tryd.f5 = some c5 := by kernel_rfl
theorem d6 : digFn Tryd.prog o6 k6 Tryd.f6 = some c6 := by kernel_rfl
theorem d7 : digFn Tryd.prog o7 k7 Tryd.f7 = some c7 := by kernel_rfl
theorem d8 : digFn Tryd.prog o8 k8 Tryd.f8 = some c8 := by kernel_rfl
theorem d9 : digFn Tryd.prog o9 k9 Tryd.f9 = some c9 := by kernel_rfl
theorem d10 : digFn Tryd.prog o10 k10 Tryd.f10 = some c10 := by kernel_rfl
theorem d11 : digFn Tryd.prog o11 k11 Tryd.f11 = some c11 := by kernel_rfl
theorem d12 : digFn Tryd.prog o12 k12 Tryd.f12 = some c12 := by kernel_rfl
theorem d13 : digFn Tryd.prog o13 k13 Tryd.f13 = some c13 := by kernel_rfl
theorem d14 : digFn Tryd.prog o14 k14 Tryd.f14 = some c14 := by kernel_rfl
theorem d15 : digFn Tryd.prog o15 k15 Tryd.f15 = some c15 := by kernel_rfl
theorem d16 : digFn Tryd.prog o16 k16 Tryd.f16 = some c16 := by kernel_rfl
theorem d17 : digFn Tryd.prog o17 k17 Tryd.f17 = some c17 := by kernel_rfl
theorem d18 : digFn Tryd.prog o18 k18 Tryd.f18 = some c18 := by kernel_rfl
theorem d19 : digFn Tryd.prog o19 k19 Tryd.f19 = some c19 := by kernel_rfl
theorem d20 : digFn Tryd.prog o20 k20 Tryd.f20 = some c20 := by kernel_rfl
theorem d21 : digFn Tryd.prog o21 k21 Tryd.f21 = some c21 := by kernel_rfl
theorem d22 : digFn Tryd.prog o22 k22 Tryd.f22 = some c22 := by kernel_rfl
theorem d23 : digFn Tryd.prog o23 k23 Tryd.f23 = some c23 := by kernel_rfl
theorem d24 : digFn Tryd.prog o24 k24 Tryd.f24 = some c24 := by kernel_rfl
theorem d25 : digFn Tryd.prog o25 k25 Tryd.f25 = some c25 := by kernel_rfl
theorem d26 : digFn Tryd.prog o26 k26 Tryd.f26 = some c26 := by kernel_rfl
theorem d27 : digFn Tryd.prog o27 k27 Tryd.f27 = some c27 := by kernel_rfl
theorem d28 : digFn Tryd.prog o28 k28 Tryd.f28 = some c28 := by kernel_rfl
theorem d29 : digFn Tryd.prog o29 k29 Tryd.f29 = some c29 := by kernel_rfl
theorem d30 : digFn Tryd.prog o30 k30 Tryd.f30 = some c30 := by kernel_rfl
theorem d31 : digFn Tryd.prog o31 k31 Tryd.f31 = some c31 := by kernel_rfl
theorem d32 : digFn Tryd.prog o32 k32 Tryd.f32 = some c32 := by kernel_rfl
theorem d33 : digFn Tryd.prog o33 k33 Tryd.f33 = some c33 := by kernel_rfl
theorem d34 : digFn Tryd.prog o34 k34 Tryd.f34 = some c34 := by kernel_rfl
theorem d35 : digFn Tryd.prog o35 k35 Tryd.f35 = some c35 := by kernel_rfl
theorem d36 : digFn Tryd.prog o36 k36 Tryd.f36 = some c36 := by kernel_rfl
theorem d37 : digFn Tryd.prog o37 k37 Tryd.f37 = some c37 := by kernel_rfl
theorem d38 : digFn Tryd.prog o38 k38 Tryd.f38 = some c38 := by kernel_rfl
theorem d39 : digFn Tryd.prog o39 k39 Tryd.f39 = some c39 := by kernel_rfl
theorem d40 : digFn Tryd.prog o40 k40 Tryd.f40 = some c40 := by kernel_rfl
theorem d41 : digFn Tryd.prog o41 k41 Tryd.f41 = some c41 := by kernel_rfl
theorem d42 : digFn Tryd.prog o42 k42 Tryd.f42 = some c42 := by kernel_rfl
theorem d43 : digFn Tryd.prog o43 k43 Tryd.f43 = some c43 := by kernel_rfl
theorem d44 : digFn Tryd.prog o44 k44 Tryd.f44 = some c44 := by kernel_rfl
theorem d45 : digFn Tryd.prog o45 k45 Tryd.f45 = some c45 := by kernel_rfl
theorem d46 : digFn Tryd.prog o46 k46 Tryd.f46 = some c46 := by kernel_rfl
theorem d47 : digFn Tryd.prog o47 k47 Tryd.f47 = some c47 := by kernel_rfl
theorem d48 : digFn Tryd.prog o48 k48 Tryd.f48 = some c48 := by kernel_rfl
theorem d49 : digFn Tryd.prog o49 k49 Tryd.f49 = some c49 := by kernel_rfl
theorem d50 : digFn Tryd.prog o50 k50 Tryd.f50 = some c50 := by kernel_rfl
theorem d51 : digFn Tryd.prog o51 k51 Tryd.f51 = some c51 := by kernel_rfl
theorem d52 : digFn Tryd.prog o52 k52 Tryd.f52 = some c52 := by kernel_rfl
theorem d53 : digFn Tryd.prog o53 k53 Tryd.f53 = some c53 := by kernel_rfl
theorem d54 : digFn Tryd.prog o54 k54 Tryd.f54 = some c54 := by kernel_rfl
theorem d56 : digFn Tryd.prog o56 k56 Tryd.f56 = some c56 := by kernel_rfl
theorem d59 : digFn Tryd.prog o59 k59 Tryd.f59 = some c59 := by kernel_rfl
theorem d60 : digFn Tryd.prog o60 k60 Tryd.f60 = some c60 := by kernel_rfl
theorem d61 : digFn Tryd.prog o61 k61 Tryd.f61 = some c61 := by kernel_rfl
theorem d62 : digFn Tryd.prog o62 k62 Tryd.f62 = some c62 := by kernel_rfl
theorem d63 : digFn Tryd.prog o63 k63 Tryd.f63 = some c63 := by kernel_rfl
theorem d64 : digFn Tryd.prog o64 k64 Tryd.f64 = some c64 := by kernel_rfl
theorem d65 : digFn Tryd.prog o65 k65 Tryd.f65 = some c65 := by kernel_rfl
theorem d66 : digFn Tryd.prog o66 k66 Tryd.f66 = some c66 := by kernel_rfl
theorem d67 : digFn Tryd.prog o67 k67 Tryd.f67 = some c67 := by kernel_rfl
theorem d68 : digFn Tryd.prog o68 k68 Tryd.f68 = some c68 := by kernel_rfl
def Dg (f : Nat) : Option AFn := lookP tbl f
theorem D3 : Dg 3 = some c3 := by kernel_rfl
theorem D4 : Dg 4 = some c4 := by kernel_rfl
theorem D5 : Dg 5 = some c5 := by kernel_rfl
theorem D6 : Dg 6 = some c6 := by kernel_rfl
theorem D7 : Dg 7 = some c7 := by kernel_rfl
theorem D8 : Dg 8 = some c8 := by kernel_rfl
theorem D9 : Dg 9 = some c9 := by kernel_rfl
theorem D10 : Dg 10 = some c10 := by kernel_rfl
theorem D11 : Dg 11 = some c11 := by kernel_rfl
theorem D12 : Dg 12 = some c12 := by kernel_rfl
theorem D13 : Dg 13 = some c13 := by kernel_rfl
theorem D14 : Dg 14 = some c14 := by kernel_rfl
theorem D15 : Dg 15 = some c15 := by kernel_rfl
theorem D16 : Dg 16 = some c16 := by kernel_rfl
theorem D17 : Dg 17 = some c17 := by kernel_rfl
theorem D18 : Dg 18 = some c18 := by kernel_rfl
theorem D19 : Dg 19 = some c19 := by kernel_rfl
theorem D20 : Dg 20 = some c20 := by kernel_rfl
theorem D21 : Dg 21 = some c21 := by kernel_rfl
theorem D22 : Dg 22 = some c22 := by kernel_rfl
theorem D23 : Dg 23 = some c23 := by kernel_rfl
theorem D24 : Dg 24 = some c24 := by kernel_rfl
theorem D25 : Dg 25 = some c25 := by kernel_rfl
theorem D26 : Dg 26 = some c26 := by kernel_rfl
theorem D27 : Dg 27 = some c27 := by kernel_rfl
theorem D28 : Dg 28 = some c28 := by kernel_rfl
theorem D29 : Dg 29 = some c29 := by kernel_rfl
theorem D30 : Dg 30 = some c30 := by kernel_rfl
theorem D31 : Dg 31 = some c31 := by kernel_rfl
theorem D32 : Dg 32 = some c32 := by kernel_rfl
theorem D33 : Dg 33 = some c33 := by kernel_rfl
theorem D34 : Dg 34 = some c34 := by kernel_rfl
theorem D35 : Dg 35 = some c35 := by kernel_rfl
theorem D36 : Dg 36 = some c36 := by kernel_rfl
theorem D37 : Dg 37 = some c37 := by kernel_rfl
theorem D38 : Dg 38 = some c38 := by kernel_rfl
theorem D39 : Dg 39 = some c39 := by kernel_rfl
theorem D40 : Dg 40 = some c40 := by kernel_rfl
theorem D41 : Dg 41 = some c41 := by kernel_rfl
theorem D42 : Dg 42 = some c42 := by kernel_rfl
theorem D43 : Dg 43 = some c43 := by kernel_rfl
theorem D44 : Dg 44 = some c44 := by kernel_rfl
theorem D45 : Dg 45 = some c45 := by kernel_rfl
theorem D46 : Dg 46 = some c46 := by kernel_rfl
theorem D47 : Dg 47 = some c47 := by kernel_rfl
theorem D48 : Dg 48 = some c48 := by kernel_rfl
theorem D49 : Dg 49 = some c49 := by kernel_rfl
theorem D50 : Dg 50 = some c50 := by kernel_rfl
theorem D51 : Dg 51 = some c51 := by kernel_rfl
theorem D52 : Dg 52 = some c52 := by kernel_rfl
theorem D53 : Dg 53 = some c53 := by kernel_rfl
theorem D54 : Dg 54 = some c54 := by kernel_rfl
theorem D55 : Dg 55 = some c55 := by kernel_rfl
theorem D56 : Dg 56 = some c56 := by kernel_rfl
theorem D59 : Dg 59 = some c59 := by kernel_rfl
theorem D60 : Dg 60 = some c60 := by kernel_rfl
theorem D61 : Dg 61 = some c61 := by kernel_rfl
theorem D62 : Dg 62 = some c62 := by kernel_rfl
theorem D63 : Dg 63 = some c63 := by kernel_rfl
theorem D64 : Dg 64 = some c64 := by kernel_rfl
theorem D65 : Dg 65 = some c65 := by kernel_rfl
theorem D66 : Dg 66 = some c66 := by kernel_rfl
theorem D67 : Dg 67 = some c67 := by kernel_rfl
theorem D68 : Dg 68 = some c68 := by kernel_rfl
theorem D57 : Dg 57 = some c57 := by kernel_rfl
theorem D58 : Dg 58 = some c58 := by kernel_rfl
theorem dokL [Bs] (hT : TabOk) : ∀ x ∈ tbl, FnOk Tryd.prog x.1 x.2 :=
  all_cons (show FnOk Tryd.prog 58 c58 from ext58) (
  all_cons (show FnOk Tryd.prog 57 c57 from ext57) (
  all_cons (fnok Tryd.func3 d3) (
  all_cons (fnok Tryd.func4 d4) (
  all_cons (fnok Tryd.func5 d5) (
  all_cons (fnok Tryd.func6 d6) (
  all_cons (fnok Tryd.func7 d7) (
  all_cons (fnok Tryd.func8 d8) (
  all_cons (fnok Tryd.func9 d9) (
  all_cons (fnok Tryd.func10 d10) (
  all_cons (fnok Tryd.func11 d11) (
  all_cons (fnok Tryd.func12 d12) (
  all_cons (fnok Tryd.func13 d13) (
  all_cons (fnok Tryd.func14 d14) (
  all_cons (fnok Tryd.func15 d15) (
  all_cons (fnok Tryd.func16 d16) (
  all_cons (fnok Tryd.func17 d17) (
  all_cons (fnok Tryd.func18 d18) (
  all_cons (fnok Tryd.func19 d19) (
  all_cons (fnok Tryd.func20 d20) (
  all_cons (fnok Tryd.func21 d21) (
  all_cons (fnok Tryd.func22 d22) (
  all_cons (fnok Tryd.func23 d23) (
  all_cons (fnok Tryd.func24 d24) (
  all_cons (fnok Tryd.func25 d25) (
  all_cons (fnok Tryd.func26 d26) (
  all_cons (fnok Tryd.func27 d27) (
  all_cons (fnok Tryd.func28 d28) (
  all_cons (fnok Tryd.func29 d29) (
  all_cons (fnok Tryd.func30 d30) (
  all_cons (fnok Tryd.func31 d31) (
  all_cons (fnok Tryd.func32 d32) (
  all_cons (fnok Tryd.func33 d33) (
  all_cons (fnok Tryd.func34 d34) (
  all_cons (fnok Tryd.func35 d35) (
  all_cons (fnok Tryd.func36 d36) (
  all_cons (fnok Tryd.func37 d37) (
  all_cons (fnok Tryd.func38 d38) (
  all_cons (fnok Tryd.func39 d39) (
  all_cons (fnok Tryd.func40 d40) (
  all_cons (fnok Tryd.func41 d41) (
  all_cons (fnok Tryd.func42 d42) (
  all_cons (fnok Tryd.func43 d43) (
  all_cons (fnok Tryd.func44 d44) (
  all_cons (fnok Tryd.func45 d45) (
  all_cons (fnok Tryd.func46 d46) (
  all_cons (fnok Tryd.func47 d47) (
  all_cons (fnok Tryd.func48 d48) (
  all_cons (fnok Tryd.func49 d49) (
  all_cons (fnok Tryd.func50 d50) (
  all_cons (fnok Tryd.func51 d51) (
  all_cons (fnok Tryd.func52 d52) (
  all_cons (fnok Tryd.func53 d53) (
  all_cons (fnok Tryd.func54 d54) (
  all_cons (show FnOk Tryd.prog 55 c55 from ext55 hT) (
  all_cons (fnok Tryd.func56 d56) (
  all_cons (fnok Tryd.func59 d59) (
  all_cons (fnok Tryd.func60 d60) (
  all_cons (fnok Tryd.func61 d61) (
  all_cons (fnok Tryd.func62 d62) (
  all_cons (fnok Tryd.func63 d63) (
  all_cons (fnok Tryd.func64 d64) (
  all_cons (fnok Tryd.func65 d65) (
  all_cons (fnok Tryd.func66 d66) (
  all_cons (fnok Tryd.func67 d67) (
  all_cons (fnok Tryd.func68 d68) (
  all_nil))))))))))))))))))))))))))))))))))))))))))))))))))))))))))))))))))
theorem dok (bs : Bs) (hT : @TabOk bs) : DOk Tryd.prog Dg := fun f fc h => dokL hT (f, fc) (lookP_mem h)

end Go.Proofs.YtddglikicokpeaaDoor
