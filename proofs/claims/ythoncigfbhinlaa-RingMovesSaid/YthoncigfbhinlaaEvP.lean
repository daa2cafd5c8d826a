/- The code of the functions, as it is read. -/
import Derived.Test.YthoncigfbhinlaaGc
import Derived.Test.YthoncigfbhinlaaProg
namespace Go.Proofs.Ythoncigfbhinlaa
open Go
/-- tracebook/tracebooklaw09.RingMakes -/
def c3 : AFn := ⟨2, 81, [.t 4],
 (.seq
  (.reg [⟨some 4, none, .mov (.c (.bool false))⟩])
  (.seq
   (.reg [⟨some 10, none, .mov (.t 0)⟩,
    ⟨some 11, none, .mov (.t 1)⟩,
    ⟨some 12, none, .call false 9 [(.t 10), (.t 11)]⟩,
    ⟨some 9, none, .mov (.t 12)⟩,
    ⟨some 13, none, .ext (.t 9) 0⟩,
    ⟨some 14, none, .ext (.t 9) 1⟩,
    ⟨some 5, none, .alloc [(.int .i64 0), .nilS, (.int .i64 0), (.int .i64 0), (.int .i64 0), (.int .i64 0)]⟩,
    ⟨none, none, .store 6 (.t 5) (.t 13)⟩,
    ⟨some 6, none, .mov (.t 14)⟩])
   (.seq
    (.reg [⟨some 16, none, .mov (.t 0)⟩,
     ⟨some 17, none, .mov (.t 1)⟩,
     ⟨some 18, none, .call false 10 [(.t 16), (.t 17)]⟩,
     ⟨some 15, none, .mov (.t 18)⟩,
     ⟨some 19, none, .ext (.t 15) 0⟩,
     ⟨some 20, none, .ext (.t 15) 1⟩,
     ⟨some 7, none, .alloc [(.int .i64 0), .nilS, (.int .i64 0), (.int .i64 0), (.int .i64 0), (.int .i64 0)]⟩,
     ⟨none, none, .store 6 (.t 7) (.t 19)⟩,
     ⟨some 8, none, .mov (.t 20)⟩])
    (.seq
     (.seq
      (.reg [⟨some 21, none, .mov (.t 6)⟩,
       ⟨some 22, none, .mov (.t 8)⟩,
       ⟨some 23, none, .bin .neq (.t 21) (.t 22)⟩,
       ⟨some 24, none, .mov (.t 23)⟩,
       ⟨some 25, some (24, false), .faddr 1 (.t 5)⟩,
       ⟨some 26, some (24, false), .load 1 false (.t 25)⟩,
       ⟨some 27, some (24, false), .len (.t 26)⟩,
       ⟨some 28, some (24, false), .faddr 1 (.t 7)⟩,
       ⟨some 29, some (24, false), .load 1 false (.t 28)⟩,
       ⟨some 30, some (24, false), .len (.t 29)⟩,
       ⟨some 31, some (24, false), .bin .neq (.t 27) (.t 30)⟩,
       ⟨some 32, none, .pick (.t 24) (.c (.bool true)) (.t 31)⟩,
       ⟨some 33, none, .mov (.t 32)⟩,
       ⟨some 34, some (33, false), .faddr 0 (.t 5)⟩,
       ⟨some 35, some (33, false), .load 1 false (.t 34)⟩,
       ⟨some 36, some (33, false), .faddr 0 (.t 7)⟩,
       ⟨some 37, some (33, false), .load 1 false (.t 36)⟩,
       ⟨some 38, some (33, false), .bin .neq (.t 35) (.t 37)⟩,
       ⟨some 39, none, .pick (.t 33) (.c (.bool true)) (.t 38)⟩,
       ⟨some 40, none, .mov (.t 39)⟩,
       ⟨some 41, some (40, false), .faddr 2 (.t 5)⟩,
       ⟨some 42, some (40, false), .load 1 false (.t 41)⟩,
       ⟨some 43, some (40, false), .bin .neq (.t 42) (.c (.int .i64 0))⟩,
       ⟨some 44, none, .pick (.t 40) (.c (.bool true)) (.t 43)⟩,
       ⟨some 45, none, .mov (.t 44)⟩,
       ⟨some 46, some (45, false), .faddr 3 (.t 5)⟩,
       ⟨some 47, some (45, false), .load 1 false (.t 46)⟩,
       ⟨some 48, some (45, false), .bin .neq (.t 47) (.c (.int .i64 0))⟩,
       ⟨some 49, none, .pick (.t 45) (.c (.bool true)) (.t 48)⟩,
       ⟨some 50, none, .mov (.t 49)⟩,
       ⟨some 51, some (50, false), .faddr 4 (.t 5)⟩,
       ⟨some 52, some (50, false), .load 1 false (.t 51)⟩,
       ⟨some 53, some (50, false), .bin .neq (.t 52) (.c (.int .i64 0))⟩,
       ⟨some 54, none, .pick (.t 50) (.c (.bool true)) (.t 53)⟩,
       ⟨some 55, none, .mov (.t 54)⟩,
       ⟨some 56, some (55, false), .faddr 5 (.t 5)⟩,
       ⟨some 57, some (55, false), .load 1 false (.t 56)⟩,
       ⟨some 58, some (55, false), .bin .neq (.t 57) (.c (.int .i64 0))⟩,
       ⟨some 59, none, .pick (.t 55) (.c (.bool true)) (.t 58)⟩])
      (.cond (.t 59)
       (.seq
        (.reg [⟨some 4, none, .mov (.c (.bool false))⟩])
        .ret)
       .skip))
     (.seq
      (.reg [⟨some 60, none, .mov (.t 6)⟩,
       ⟨some 61, none, .bin .neq (.t 60) (.c (.int .i64 0))⟩,
       ⟨some 62, none, .mov (.t 61)⟩,
       ⟨some 63, some (62, false), .load 6 true (.t 5)⟩,
       ⟨some 64, some (62, false), .call false 11 [(.t 63)]⟩,
       ⟨some 65, some (62, false), .bin .eql (.t 64) (.c (.int .i64 0))⟩,
       ⟨some 66, some (62, false), .mov (.t 65)⟩,
       ⟨some 67, some (66, true), .load 6 true (.t 5)⟩,
       ⟨some 68, some (66, true), .call false 12 [(.t 67)]⟩,
       ⟨some 69, some (66, true), .bin .eql (.t 68) (.c (.int .i64 0))⟩,
       ⟨some 70, some (62, false), .pick (.t 66) (.t 69) (.c (.bool false))⟩,
       ⟨some 71, some (62, false), .mov (.t 70)⟩,
       ⟨some 72, some (71, true), .load 6 true (.t 5)⟩,
       ⟨some 73, some (71, true), .call false 13 [(.t 72)]⟩,
       ⟨some 74, some (71, true), .mov (.t 0)⟩,
       ⟨some 75, some (71, true), .bin .eql (.t 73) (.t 74)⟩,
       ⟨some 76, some (62, false), .pick (.t 71) (.t 75) (.c (.bool false))⟩,
       ⟨some 77, none, .pick (.t 62) (.c (.bool true)) (.t 76)⟩,
       ⟨some 78, none, .mov (.t 77)⟩,
       ⟨some 79, some (78, true), .call false 14 []⟩,
       ⟨some 80, none, .pick (.t 78) (.t 79) (.c (.bool false))⟩,
       ⟨some 4, none, .mov (.t 80)⟩])
      .ret))))), none⟩
def k3 : List (List Nat) := []
def o3 : List Nat := [3000000]
/-- tracebook/tracebooklaw09.RingChecks -/
def c4 : AFn := ⟨1, 53, [.t 2],
 (.seq
  (.reg [⟨some 1, none, .box (.t 0)⟩,
   ⟨some 2, none, .mov (.c (.bool false))⟩])
  (.seq
   (.seq
    (.reg [⟨some 7, none, .load 6 true (.t 1)⟩,
     ⟨some 8, none, .call false 15 [(.t 7), (.c .nilS)]⟩,
     ⟨some 9, none, .un .not (.t 8)⟩])
    (.cond (.t 9)
     (.seq
      (.reg [⟨some 10, none, .call false 14 []⟩,
       ⟨some 2, none, .mov (.t 10)⟩])
      .ret)
     .skip))
   (.seq
    (.reg [⟨some 12, none, .load 6 true (.t 1)⟩,
     ⟨some 13, none, .call false 16 [(.t 12)]⟩,
     ⟨some 11, none, .mov (.t 13)⟩,
     ⟨some 14, none, .ext (.t 11) 0⟩,
     ⟨some 15, none, .ext (.t 11) 1⟩,
     ⟨some 4, none, .alloc [(.int .i64 0), .nilS, (.int .i64 0), (.int .i64 0), (.int .i64 0), (.int .i64 0)]⟩,
     ⟨some 3, none, .mov (.t 14)⟩,
     ⟨none, none, .store 6 (.t 4) (.t 15)⟩])
    (.seq
     (.reg [⟨some 17, none, .load 6 true (.t 1)⟩,
      ⟨some 18, none, .call false 17 [(.t 17)]⟩,
      ⟨some 16, none, .mov (.t 18)⟩,
      ⟨some 19, none, .ext (.t 16) 0⟩,
      ⟨some 20, none, .ext (.t 16) 1⟩,
      ⟨some 6, none, .alloc [(.int .i64 0), .nilS, (.int .i64 0), (.int .i64 0), (.int .i64 0), (.int .i64 0)]⟩,
      ⟨some 5, none, .mov (.t 19)⟩,
      ⟨none, none, .store 6 (.t 6) (.t 20)⟩])
     (.seq
      (.reg [⟨some 21, none, .load 6 true (.t 1)⟩,
       ⟨some 22, none, .call false 11 [(.t 21)]⟩,
       ⟨some 23, none, .load 6 true (.t 1)⟩,
       ⟨some 24, none, .call false 18 [(.t 23)]⟩,
       ⟨some 25, none, .bin .eql (.t 22) (.t 24)⟩,
       ⟨some 26, none, .mov (.t 25)⟩,
       ⟨some 27, some (26, true), .load 6 true (.t 1)⟩,
       ⟨some 28, some (26, true), .call false 12 [(.t 27)]⟩,
       ⟨some 29, some (26, true), .load 6 true (.t 1)⟩,
       ⟨some 30, some (26, true), .call false 19 [(.t 29)]⟩,
       ⟨some 31, some (26, true), .bin .eql (.t 28) (.t 30)⟩,
       ⟨some 32, none, .pick (.t 26) (.t 31) (.c (.bool false))⟩,
       ⟨some 33, none, .mov (.t 32)⟩,
       ⟨some 34, some (33, true), .load 6 true (.t 1)⟩,
       ⟨some 35, some (33, true), .call false 13 [(.t 34)]⟩,
       ⟨some 36, some (33, true), .load 6 true (.t 1)⟩,
       ⟨some 37, some (33, true), .call false 20 [(.t 36)]⟩,
       ⟨some 38, some (33, true), .bin .eql (.t 35) (.t 37)⟩,
       ⟨some 39, none, .pick (.t 33) (.t 38) (.c (.bool false))⟩,
       ⟨some 40, none, .mov (.t 39)⟩,
       ⟨some 41, some (40, true), .mov (.t 3)⟩,
       ⟨some 42, some (40, true), .mov (.t 5)⟩,
       ⟨some 43, some (40, true), .call false 21 [(.t 41), (.t 42)]⟩,
       ⟨some 44, none, .pick (.t 40) (.t 43) (.c (.bool false))⟩,
       ⟨some 45, none, .mov (.t 44)⟩,
       ⟨some 46, some (45, true), .load 6 true (.t 4)⟩,
       ⟨some 47, some (45, true), .load 6 true (.t 6)⟩,
       ⟨some 48, some (45, true), .call false 22 [(.t 46), (.t 47)]⟩,
       ⟨some 49, none, .pick (.t 45) (.t 48) (.c (.bool false))⟩,
       ⟨some 50, none, .mov (.t 49)⟩,
       ⟨some 51, some (50, true), .call false 14 []⟩,
       ⟨some 52, none, .pick (.t 50) (.t 51) (.c (.bool false))⟩,
       ⟨some 2, none, .mov (.t 52)⟩])
      .ret))))), none⟩
def k4 : List (List Nat) := []
def o4 : List Nat := [3000000]
/-- tracebook/tracebooklaw09.RingPuts -/
def c5 : AFn := ⟨2, 46, [.t 4],
 (.seq
  (.reg [⟨some 2, none, .box (.t 0)⟩,
   ⟨some 4, none, .mov (.c (.bool false))⟩])
  (.seq
   (.seq
    (.reg [⟨some 11, none, .load 6 true (.t 2)⟩,
     ⟨some 12, none, .mov (.t 1)⟩,
     ⟨some 13, none, .call false 15 [(.t 11), (.t 12)]⟩,
     ⟨some 14, none, .un .not (.t 13)⟩])
    (.cond (.t 14)
     (.seq
      (.reg [⟨some 15, none, .call false 14 []⟩,
       ⟨some 4, none, .mov (.t 15)⟩])
      .ret)
     .skip))
   (.seq
    (.reg [⟨some 17, none, .load 6 true (.t 2)⟩,
     ⟨some 18, none, .mov (.t 1)⟩,
     ⟨some 19, none, .call false 23 [(.t 17), (.t 18)]⟩,
     ⟨some 16, none, .mov (.t 19)⟩,
     ⟨some 20, none, .ext (.t 16) 0⟩,
     ⟨some 21, none, .ext (.t 16) 1⟩,
     ⟨some 22, none, .ext (.t 16) 2⟩,
     ⟨some 5, none, .alloc [(.int .i64 0), .nilS, (.int .i64 0), (.int .i64 0), (.int .i64 0), (.int .i64 0)]⟩,
     ⟨none, none, .store 6 (.t 5) (.t 20)⟩,
     ⟨some 6, none, .mov (.t 21)⟩,
     ⟨some 7, none, .mov (.t 22)⟩])
    (.seq
     (.reg [⟨some 24, none, .load 6 true (.t 2)⟩,
      ⟨some 25, none, .mov (.t 1)⟩,
      ⟨some 26, none, .call false 24 [(.t 24), (.t 25)]⟩,
      ⟨some 23, none, .mov (.t 26)⟩,
      ⟨some 27, none, .ext (.t 23) 0⟩,
      ⟨some 28, none, .ext (.t 23) 1⟩,
      ⟨some 29, none, .ext (.t 23) 2⟩,
      ⟨some 8, none, .alloc [(.int .i64 0), .nilS, (.int .i64 0), (.int .i64 0), (.int .i64 0), (.int .i64 0)]⟩,
      ⟨none, none, .store 6 (.t 8) (.t 27)⟩,
      ⟨some 9, none, .mov (.t 28)⟩,
      ⟨some 10, none, .mov (.t 29)⟩])
     (.seq
      (.reg [⟨some 30, none, .mov (.t 6)⟩,
       ⟨some 31, none, .mov (.t 9)⟩,
       ⟨some 32, none, .bin .eql (.t 30) (.t 31)⟩,
       ⟨some 33, none, .mov (.t 32)⟩,
       ⟨some 34, some (33, true), .mov (.t 7)⟩,
       ⟨some 35, some (33, true), .mov (.t 10)⟩,
       ⟨some 36, some (33, true), .bin .eql (.t 34) (.t 35)⟩,
       ⟨some 37, none, .pick (.t 33) (.t 36) (.c (.bool false))⟩,
       ⟨some 38, none, .mov (.t 37)⟩,
       ⟨some 39, some (38, true), .load 6 true (.t 5)⟩,
       ⟨some 40, some (38, true), .load 6 true (.t 8)⟩,
       ⟨some 41, some (38, true), .call false 22 [(.t 39), (.t 40)]⟩,
       ⟨some 42, none, .pick (.t 38) (.t 41) (.c (.bool false))⟩,
       ⟨some 43, none, .mov (.t 42)⟩,
       ⟨some 44, some (43, true), .call false 14 []⟩,
       ⟨some 45, none, .pick (.t 43) (.t 44) (.c (.bool false))⟩,
       ⟨some 4, none, .mov (.t 45)⟩])
      .ret))))), none⟩
def k5 : List (List Nat) := []
def o5 : List Nat := [3000000]
/-- tracebook/tracebooklaw09.RingKeeps -/
def c6 : AFn := ⟨2, 130, [.t 4],
 (.seq
  (.reg [⟨some 2, none, .box (.t 0)⟩,
   ⟨some 4, none, .mov (.c (.bool false))⟩])
  (.seq
   (.seq
    (.reg [⟨some 12, none, .load 6 true (.t 2)⟩,
     ⟨some 13, none, .mov (.t 1)⟩,
     ⟨some 14, none, .call false 15 [(.t 12), (.t 13)]⟩,
     ⟨some 15, none, .un .not (.t 14)⟩,
     ⟨some 16, none, .mov (.t 15)⟩,
     ⟨some 17, some (16, false), .load 6 true (.t 2)⟩,
     ⟨some 18, some (16, false), .call false 11 [(.t 17)]⟩,
     ⟨some 19, some (16, false), .bin .neq (.t 18) (.c (.int .i64 0))⟩,
     ⟨some 20, none, .pick (.t 16) (.c (.bool true)) (.t 19)⟩])
    (.cond (.t 20)
     (.seq
      (.reg [⟨some 21, none, .call false 14 []⟩,
       ⟨some 4, none, .mov (.t 21)⟩])
      .ret)
     .skip))
   (.seq
    (.reg [⟨some 23, none, .load 6 true (.t 2)⟩,
     ⟨some 24, none, .call false 16 [(.t 23)]⟩,
     ⟨some 22, none, .mov (.t 24)⟩,
     ⟨some 25, none, .ext (.t 22) 0⟩,
     ⟨some 26, none, .ext (.t 22) 1⟩,
     ⟨some 6, none, .alloc [(.int .i64 0), .nilS, (.int .i64 0), (.int .i64 0), (.int .i64 0), (.int .i64 0)]⟩,
     ⟨some 5, none, .mov (.t 25)⟩,
     ⟨none, none, .store 6 (.t 6) (.t 26)⟩])
    (.seq
     (.reg [⟨some 28, none, .load 6 true (.t 2)⟩,
      ⟨some 29, none, .mov (.t 1)⟩,
      ⟨some 30, none, .call false 23 [(.t 28), (.t 29)]⟩,
      ⟨some 27, none, .mov (.t 30)⟩,
      ⟨some 31, none, .ext (.t 27) 0⟩,
      ⟨some 32, none, .ext (.t 27) 1⟩,
      ⟨some 33, none, .ext (.t 27) 2⟩,
      ⟨some 7, none, .alloc [(.int .i64 0), .nilS, (.int .i64 0), (.int .i64 0), (.int .i64 0), (.int .i64 0)]⟩,
      ⟨none, none, .store 6 (.t 7) (.t 31)⟩,
      ⟨some 8, none, .mov (.t 32)⟩,
      ⟨some 9, none, .mov (.t 33)⟩])
     (.seq
      (.reg [⟨some 35, none, .load 6 true (.t 7)⟩,
       ⟨some 36, none, .call false 16 [(.t 35)]⟩,
       ⟨some 34, none, .mov (.t 36)⟩,
       ⟨some 37, none, .ext (.t 34) 0⟩,
       ⟨some 38, none, .ext (.t 34) 1⟩,
       ⟨some 11, none, .alloc [(.int .i64 0), .nilS, (.int .i64 0), (.int .i64 0), (.int .i64 0), (.int .i64 0)]⟩,
       ⟨some 10, none, .mov (.t 37)⟩,
       ⟨none, none, .store 6 (.t 11) (.t 38)⟩])
      (.seq
       (.seq
        (.reg [⟨some 39, none, .mov (.t 9)⟩,
         ⟨some 40, none, .bin .neq (.t 39) (.c (.int .i64 0))⟩])
        (.cond (.t 40)
         (.seq
          (.reg [⟨some 41, none, .mov (.t 8)⟩,
           ⟨some 42, none, .bin .eql (.t 41) (.c (.int .i64 0))⟩,
           ⟨some 43, none, .mov (.t 42)⟩,
           ⟨some 44, some (43, true), .mov (.t 5)⟩,
           ⟨some 45, some (43, true), .mov (.t 10)⟩,
           ⟨some 46, some (43, true), .call false 21 [(.t 44), (.t 45)]⟩,
           ⟨some 47, none, .pick (.t 43) (.t 46) (.c (.bool false))⟩,
           ⟨some 48, none, .mov (.t 47)⟩,
           ⟨some 49, some (48, true), .faddr 4 (.t 7)⟩,
           ⟨some 50, some (48, true), .load 1 false (.t 49)⟩,
           ⟨some 51, some (48, true), .faddr 4 (.t 2)⟩,
           ⟨some 52, some (48, true), .load 1 false (.t 51)⟩,
           ⟨some 53, some (48, true), .bin .eql (.t 50) (.t 52)⟩,
           ⟨some 54, none, .pick (.t 48) (.t 53) (.c (.bool false))⟩,
           ⟨some 55, none, .mov (.t 54)⟩,
           ⟨some 56, some (55, true), .faddr 5 (.t 7)⟩,
           ⟨some 57, some (55, true), .load 1 false (.t 56)⟩,
           ⟨some 58, some (55, true), .faddr 5 (.t 2)⟩,
           ⟨some 59, some (55, true), .load 1 false (.t 58)⟩,
           ⟨some 60, some (55, true), .bin .eql (.t 57) (.t 59)⟩,
           ⟨some 61, none, .pick (.t 55) (.t 60) (.c (.bool false))⟩,
           ⟨some 62, none, .mov (.t 61)⟩,
           ⟨some 63, some (62, true), .call false 14 []⟩,
           ⟨some 64, none, .pick (.t 62) (.t 63) (.c (.bool false))⟩,
           ⟨some 4, none, .mov (.t 64)⟩])
          .ret)
         .skip))
       (.seq
        (.seq
         (.reg [⟨some 65, none, .mov (.t 8)⟩,
          ⟨some 66, none, .bin .lss (.t 65) (.c (.int .i64 0))⟩,
          ⟨some 67, none, .mov (.t 66)⟩,
          ⟨some 68, some (67, false), .mov (.t 8)⟩,
          ⟨some 69, some (67, false), .mov (.t 5)⟩,
          ⟨some 70, some (67, false), .len (.t 69)⟩,
          ⟨some 71, some (67, false), .bin .gtr (.t 68) (.t 70)⟩,
          ⟨some 72, none, .pick (.t 67) (.c (.bool true)) (.t 71)⟩,
          ⟨some 73, none, .mov (.t 72)⟩,
          ⟨some 74, some (73, false), .mov (.t 8)⟩,
          ⟨some 75, some (73, false), .bin .gtr (.t 74) (.c (.int .i64 0))⟩,
          ⟨some 76, some (73, false), .mov (.t 75)⟩,
          ⟨some 77, some (76, true), .faddr 0 (.t 2)⟩,
          ⟨some 78, some (76, true), .load 1 false (.t 77)⟩,
          ⟨some 79, some (76, true), .bin .eql (.t 78) (.c (.int .i64 2))⟩,
          ⟨some 80, some (73, false), .pick (.t 76) (.t 79) (.c (.bool false))⟩,
          ⟨some 81, none, .pick (.t 73) (.c (.bool true)) (.t 80)⟩,
          ⟨some 82, none, .mov (.t 81)⟩,
          ⟨some 83, some (82, false), .load 6 true (.t 7)⟩,
          ⟨some 84, some (82, false), .call false 11 [(.t 83)]⟩,
          ⟨some 85, some (82, false), .bin .neq (.t 84) (.c (.int .i64 0))⟩,
          ⟨some 86, none, .pick (.t 82) (.c (.bool true)) (.t 85)⟩,
          ⟨some 87, none, .mov (.t 86)⟩,
          ⟨some 88, some (87, false), .faddr 4 (.t 7)⟩,
          ⟨some 89, some (87, false), .load 1 false (.t 88)⟩,
          ⟨some 90, some (87, false), .faddr 4 (.t 2)⟩,
          ⟨some 91, some (87, false), .load 1 false (.t 90)⟩,
          ⟨some 92, some (87, false), .mov (.t 8)⟩,
          ⟨some 93, some (87, false), .bin .add (.t 91) (.t 92)⟩,
          ⟨some 94, some (87, false), .bin .neq (.t 89) (.t 93)⟩,
          ⟨some 95, none, .pick (.t 87) (.c (.bool true)) (.t 94)⟩,
          ⟨some 96, none, .mov (.t 95)⟩,
          ⟨some 97, some (96, false), .faddr 5 (.t 7)⟩,
          ⟨some 98, some (96, false), .load 1 false (.t 97)⟩,
          ⟨some 99, some (96, false), .faddr 5 (.t 2)⟩,
          ⟨some 100, some (96, false), .load 1 false (.t 99)⟩,
          ⟨some 101, some (96, false), .bin .add (.t 100) (.c (.int .i64 1))⟩,
          ⟨some 102, some (96, false), .bin .neq (.t 98) (.t 101)⟩,
          ⟨some 103, none, .pick (.t 96) (.c (.bool true)) (.t 102)⟩])
         (.cond (.t 103)
          (.seq
           (.reg [⟨some 4, none, .mov (.c (.bool false))⟩])
           .ret)
          .skip))
        (.seq
         (.seq
          (.reg [⟨some 104, none, .mov (.t 8)⟩,
           ⟨some 105, none, .bin .gtr (.t 104) (.c (.int .i64 0))⟩,
           ⟨some 106, none, .mov (.t 105)⟩,
           ⟨some 107, some (106, true), .load 6 true (.t 7)⟩,
           ⟨some 108, some (106, true), .call false 13 [(.t 107)]⟩,
           ⟨some 109, some (106, true), .mov (.t 5)⟩,
           ⟨some 110, some (106, true), .mov (.t 8)⟩,
           ⟨some 111, some (106, true), .bin .sub (.t 110) (.c (.int .i64 1))⟩,
           ⟨some 112, some (106, true), .iaddr (.slice 1) (.t 109) (.t 111)⟩,
           ⟨some 113, some (106, true), .load 1 false (.t 112)⟩,
           ⟨some 114, some (106, true), .call false 25 [(.t 113)]⟩,
           ⟨some 115, some (106, true), .bin .geq (.t 108) (.t 114)⟩,
           ⟨some 116, none, .pick (.t 106) (.t 115) (.c (.bool false))⟩])
          (.cond (.t 116)
           (.seq
            (.reg [⟨some 4, none, .mov (.c (.bool false))⟩])
            .ret)
           .skip))
         (.seq
          (.reg [⟨some 117, none, .mov (.t 10)⟩,
           ⟨some 118, none, .bslice true 1 [.nilS] 0 []⟩,
           ⟨some 119, none, .mov (.t 5)⟩,
           ⟨some 120, none, .mov (.t 8)⟩,
           ⟨some 121, none, .slc (.slice 1) (.t 119) (some (.t 120)) none none⟩,
           ⟨some 122, none, .append 1 24 (.t 118) (.t 121)⟩,
           ⟨some 123, none, .mov (.t 1)⟩,
           ⟨some 124, none, .bslice false 1 [.nilS] 1 [(0, (.t 123))]⟩,
           ⟨some 125, none, .append 1 24 (.t 122) (.t 124)⟩,
           ⟨some 126, none, .call false 21 [(.t 117), (.t 125)]⟩,
           ⟨some 127, none, .mov (.t 126)⟩,
           ⟨some 128, some (127, true), .call false 14 []⟩,
           ⟨some 129, none, .pick (.t 127) (.t 128) (.c (.bool false))⟩,
           ⟨some 4, none, .mov (.t 129)⟩])
          .ret))))))))), none⟩
def k6 : List (List Nat) := []
def o6 : List Nat := [3000000, 118]
def c7b0 : AC := (.seq
                             (.seq
                              (.reg [⟨some 104, none, .mov (.t 10)⟩,
                               ⟨some 105, none, .len (.t 104)⟩,
                               ⟨some 106, none, .bin .gtr (.t 105) (.c (.int .i64 0))⟩,
                               ⟨some 107, none, .mov (.t 106)⟩,
                               ⟨some 108, some (107, true), .mov (.t 11)⟩,
                               ⟨some 109, some (107, true), .mov (.t 20)⟩,
                               ⟨some 110, some (107, true), .bin .add (.t 108) (.t 109)⟩,
                               ⟨some 111, some (107, true), .mov (.t 0)⟩,
                               ⟨some 112, some (107, true), .conv (.int .i64) (.t 111)⟩,
                               ⟨some 113, some (107, true), .bin .add (.c (.int .i64 16)) (.t 112)⟩,
                               ⟨some 114, some (107, true), .bin .gtr (.t 110) (.t 113)⟩,
                               ⟨some 115, none, .pick (.t 107) (.t 114) (.c (.bool false))⟩])
                              (.cond (.t 115)
                               .skip
                               (.exit 2)))
                             (.block 3
                              (.seq
                               (.reg [⟨some 116, none, .mov (.t 11)⟩,
                                ⟨some 117, none, .mov (.t 10)⟩,
                                ⟨some 118, none, .iaddr (.slice 1) (.t 117) (.c (.int .i64 0))⟩,
                                ⟨some 119, none, .load 1 false (.t 118)⟩,
                                ⟨some 120, none, .call false 25 [(.t 119)]⟩,
                                ⟨some 121, none, .bin .sub (.t 116) (.t 120)⟩,
                                ⟨some 11, none, .mov (.t 121)⟩])
                               (.seq
                                (.reg [⟨some 122, none, .mov (.t 10)⟩,
                                 ⟨some 123, none, .slc (.slice 1) (.t 122) (some (.c (.int .i64 1))) none none⟩,
                                 ⟨some 10, none, .mov (.t 123)⟩])
                                (.seq
                                 (.reg [⟨some 124, none, .mov (.t 12)⟩,
                                  ⟨some 125, none, .bin .add (.t 124) (.c (.int .i64 1))⟩,
                                  ⟨some 12, none, .mov (.t 125)⟩])
                                 (.reg [⟨some 126, none, .mov (.t 18)⟩,
                                  ⟨some 127, none, .bin .sub (.t 126) (.c (.int .i64 1))⟩,
                                  ⟨some 18, none, .mov (.t 127)⟩]))))))
def c7r0 : AC := (.seq
                           (.reg [⟨some 128, none, .mov (.t 11)⟩,
                            ⟨some 129, none, .mov (.t 20)⟩,
                            ⟨some 130, none, .bin .add (.t 128) (.t 129)⟩,
                            ⟨some 11, none, .mov (.t 130)⟩])
                           (.seq
                            (.reg [⟨some 131, none, .mov (.t 10)⟩,
                             ⟨some 132, none, .mov (.t 14)⟩,
                             ⟨some 133, none, .bslice false 1 [.nilS] 1 [(0, (.t 132))]⟩,
                             ⟨some 134, none, .append 1 24 (.t 131) (.t 133)⟩,
                             ⟨some 10, none, .mov (.t 134)⟩])
                            (.seq
                             (.reg [⟨some 135, none, .mov (.t 18)⟩,
                              ⟨some 136, none, .bin .neq (.t 135) (.c (.int .i64 0))⟩,
                              ⟨some 137, none, .mov (.t 136)⟩,
                              ⟨some 138, some (137, false), .faddr 4 (.t 8)⟩,
                              ⟨some 139, some (137, false), .load 1 false (.t 138)⟩,
                              ⟨some 140, some (137, false), .mov (.t 12)⟩,
                              ⟨some 141, some (137, false), .bin .neq (.t 139) (.t 140)⟩,
                              ⟨some 142, none, .pick (.t 137) (.c (.bool true)) (.t 141)⟩,
                              ⟨some 143, none, .mov (.t 142)⟩,
                              ⟨some 144, some (143, false), .load 6 true (.t 8)⟩,
                              ⟨some 145, some (143, false), .call false 12 [(.t 144)]⟩,
                              ⟨some 146, some (143, false), .mov (.t 10)⟩,
                              ⟨some 147, some (143, false), .len (.t 146)⟩,
                              ⟨some 148, some (143, false), .bin .neq (.t 145) (.t 147)⟩,
                              ⟨some 149, none, .pick (.t 143) (.c (.bool true)) (.t 148)⟩,
                              ⟨some 150, none, .mov (.t 149)⟩,
                              ⟨some 151, some (150, false), .load 6 true (.t 8)⟩,
                              ⟨some 152, some (150, false), .call false 13 [(.t 151)]⟩,
                              ⟨some 153, some (150, false), .mov (.t 0)⟩,
                              ⟨some 154, some (150, false), .conv (.int .i64) (.t 153)⟩,
                              ⟨some 155, some (150, false), .bin .add (.c (.int .i64 16)) (.t 154)⟩,
                              ⟨some 156, some (150, false), .mov (.t 11)⟩,
                              ⟨some 157, some (150, false), .bin .sub (.t 155) (.t 156)⟩,
                              ⟨some 158, some (150, false), .bin .neq (.t 152) (.t 157)⟩,
                              ⟨some 159, none, .pick (.t 150) (.c (.bool true)) (.t 158)⟩])
                             (.cond (.t 159)
                              (.seq
                               (.reg [⟨some 6, none, .mov (.c (.bool false))⟩])
                               .ret)
                              .skip))))
def c7b1 : AC := (.seq
              (.seq
               (.reg [⟨some 39, none, .mov (.t 13)⟩,
                ⟨some 40, none, .mov (.t 2)⟩,
                ⟨some 41, none, .len (.t 40)⟩,
                ⟨some 42, none, .bin .lss (.t 39) (.t 41)⟩])
               (.cond (.t 42)
                .skip
                (.exit 0)))
              (.seq
               (.block 1
                (.seq
                 (.reg [⟨some 45, none, .mov (.t 2)⟩,
                  ⟨some 46, none, .mov (.t 13)⟩,
                  ⟨some 47, none, .iaddr (.slice 1) (.t 45) (.t 46)⟩,
                  ⟨some 48, none, .load 1 false (.t 47)⟩,
                  ⟨some 14, none, .mov (.t 48)⟩])
                 (.seq
                  (.seq
                   (.reg [⟨some 49, none, .mov (.t 14)⟩,
                    ⟨some 50, none, .len (.t 49)⟩,
                    ⟨some 51, none, .bin .gtr (.t 50) (.c (.int .i64 100))⟩])
                   (.cond (.t 51)
                    (.seq
                     (.reg [⟨some 52, none, .call false 14 []⟩,
                      ⟨some 6, none, .mov (.t 52)⟩])
                     .ret)
                    .skip))
                  (.seq
                   (.seq
                    (.reg [⟨some 53, none, .mov (.t 14)⟩,
                     ⟨some 54, none, .len (.t 53)⟩,
                     ⟨some 55, none, .bin .eql (.t 54) (.c (.int .i64 0))⟩])
                    (.cond (.t 55)
                     (.seq
                      (.reg [⟨some 57, none, .load 6 true (.t 8)⟩,
                       ⟨some 58, none, .call false 16 [(.t 57)]⟩,
                       ⟨some 56, none, .mov (.t 58)⟩,
                       ⟨some 59, none, .ext (.t 56) 0⟩,
                       ⟨some 60, none, .ext (.t 56) 1⟩,
                       ⟨some 16, none, .alloc [(.int .i64 0), .nilS, (.int .i64 0), (.int .i64 0), (.int .i64 0), (.int .i64 0)]⟩,
                       ⟨some 15, none, .mov (.t 59)⟩,
                       ⟨none, none, .store 6 (.t 16) (.t 60)⟩])
                      (.seq
                       (.seq
                        (.reg [⟨some 61, none, .mov (.t 15)⟩,
                         ⟨some 62, none, .mov (.t 10)⟩,
                         ⟨some 63, none, .call false 21 [(.t 61), (.t 62)]⟩,
                         ⟨some 64, none, .un .not (.t 63)⟩])
                        (.cond (.t 64)
                         (.seq
                          (.reg [⟨some 6, none, .mov (.c (.bool false))⟩])
                          .ret)
                         .skip))
                       (.seq
                        (.reg [⟨some 65, none, .mov (.t 12)⟩,
                         ⟨some 66, none, .mov (.t 10)⟩,
                         ⟨some 67, none, .len (.t 66)⟩,
                         ⟨some 68, none, .bin .add (.t 65) (.t 67)⟩,
                         ⟨some 12, none, .mov (.t 68)⟩])
                        (.seq
                         (.reg [⟨some 69, none, .load 6 true (.t 16)⟩,
                          ⟨some 10, none, .nilv 1⟩,
                          ⟨some 11, none, .mov (.c (.int .i64 0))⟩,
                          ⟨none, none, .store 6 (.t 8) (.t 69)⟩])
                         (.exit 1)))))
                     .skip))
                   (.seq
                    (.reg [⟨some 71, none, .load 6 true (.t 8)⟩,
                     ⟨some 72, none, .mov (.t 14)⟩,
                     ⟨some 73, none, .call false 23 [(.t 71), (.t 72)]⟩,
                     ⟨some 70, none, .mov (.t 73)⟩,
                     ⟨some 74, none, .ext (.t 70) 0⟩,
                     ⟨some 75, none, .ext (.t 70) 1⟩,
                     ⟨some 76, none, .ext (.t 70) 2⟩,
                     ⟨some 17, none, .alloc [(.int .i64 0), .nilS, (.int .i64 0), (.int .i64 0), (.int .i64 0), (.int .i64 0)]⟩,
                     ⟨none, none, .store 6 (.t 17) (.t 74)⟩,
                     ⟨some 18, none, .mov (.t 75)⟩,
                     ⟨some 19, none, .mov (.t 76)⟩])
                    (.seq
                     (.reg [⟨some 77, none, .mov (.t 14)⟩,
                      ⟨some 78, none, .call false 25 [(.t 77)]⟩,
                      ⟨some 20, none, .mov (.t 78)⟩])
                     (.seq
                      (.reg [⟨some 79, none, .mov (.t 20)⟩,
                       ⟨some 80, none, .mov (.t 0)⟩,
                       ⟨some 81, none, .conv (.int .i64) (.t 80)⟩,
                       ⟨some 82, none, .bin .add (.c (.int .i64 16)) (.t 81)⟩,
                       ⟨some 83, none, .bin .leq (.t 79) (.t 82)⟩,
                       ⟨some 84, none, .mov (.t 83)⟩,
                       ⟨some 85, some (84, true), .mov (.t 1)⟩,
                       ⟨some 86, some (84, true), .un .not (.t 85)⟩,
                       ⟨some 87, some (84, true), .mov (.t 86)⟩,
                       ⟨some 88, some (87, false), .mov (.t 11)⟩,
                       ⟨some 89, some (87, false), .mov (.t 20)⟩,
                       ⟨some 90, some (87, false), .bin .add (.t 88) (.t 89)⟩,
                       ⟨some 91, some (87, false), .mov (.t 0)⟩,
                       ⟨some 92, some (87, false), .conv (.int .i64) (.t 91)⟩,
                       ⟨some 93, some (87, false), .bin .add (.c (.int .i64 16)) (.t 92)⟩,
                       ⟨some 94, some (87, false), .bin .leq (.t 90) (.t 93)⟩,
                       ⟨some 95, some (84, true), .pick (.t 87) (.c (.bool true)) (.t 94)⟩,
                       ⟨some 96, none, .pick (.t 84) (.t 95) (.c (.bool false))⟩,
                       ⟨some 21, none, .mov (.t 96)⟩])
                      (.seq
                       (.seq
                        (.reg [⟨some 97, none, .mov (.t 21)⟩,
                         ⟨some 98, none, .mov (.t 19)⟩,
                         ⟨some 99, none, .bin .eql (.t 98) (.c (.int .i64 0))⟩,
                         ⟨some 100, none, .beq true (.t 97) (.t 99)⟩])
                        (.cond (.t 100)
                         (.seq
                          (.reg [⟨some 6, none, .mov (.c (.bool false))⟩])
                          .ret)
                         .skip))
                       (.seq
                        (.reg [⟨some 101, none, .load 6 true (.t 17)⟩,
                         ⟨none, none, .store 6 (.t 8) (.t 101)⟩])
                        (.seq
                         (.seq
                          (.reg [⟨some 102, none, .mov (.t 21)⟩,
                           ⟨some 103, none, .un .not (.t 102)⟩])
                          (.cond (.t 103)
                           (.exit 1)
                           .skip))
                         (.seq
                          (.block 2
                           (.loop [0, 1, 2, 8, 10, 11, 12, 13, 14, 18, 20]
                            c7b0))
                          c7r0)))))))))))
               (.reg [⟨some 43, none, .mov (.t 13)⟩,
                ⟨some 44, none, .bin .add (.t 43) (.c (.int .i64 1))⟩,
                ⟨some 13, none, .mov (.t 44)⟩])))
def c7r1 : AC := (.seq
           (.reg [⟨some 161, none, .load 6 true (.t 8)⟩,
            ⟨some 162, none, .call false 16 [(.t 161)]⟩,
            ⟨some 160, none, .mov (.t 162)⟩,
            ⟨some 163, none, .ext (.t 160) 0⟩,
            ⟨some 164, none, .ext (.t 160) 1⟩,
            ⟨some 23, none, .alloc [(.int .i64 0), .nilS, (.int .i64 0), (.int .i64 0), (.int .i64 0), (.int .i64 0)]⟩,
            ⟨some 22, none, .mov (.t 163)⟩,
            ⟨none, none, .store 6 (.t 23) (.t 164)⟩])
           (.seq
            (.reg [⟨some 165, none, .mov (.t 22)⟩,
             ⟨some 166, none, .mov (.t 10)⟩,
             ⟨some 167, none, .call false 21 [(.t 165), (.t 166)]⟩,
             ⟨some 168, none, .mov (.t 167)⟩,
             ⟨some 169, some (168, true), .call false 14 []⟩,
             ⟨some 170, none, .pick (.t 168) (.t 169) (.c (.bool false))⟩,
             ⟨some 6, none, .mov (.t 170)⟩])
            .ret))
/-- tracebook/tracebooklaw09.RingPlays -/
def c7 : AFn := ⟨3, 171, [.t 6],
 (.seq
  (.reg [⟨some 6, none, .mov (.c (.bool false))⟩])
  (.seq
   (.seq
    (.reg [⟨some 24, none, .mov (.t 2)⟩,
     ⟨some 25, none, .len (.t 24)⟩,
     ⟨some 26, none, .bin .gtr (.t 25) (.c (.int .i64 40))⟩])
    (.cond (.t 26)
     (.seq
      (.reg [⟨some 27, none, .call false 14 []⟩,
       ⟨some 6, none, .mov (.t 27)⟩])
      .ret)
     .skip))
   (.seq
    (.reg [⟨some 7, none, .mov (.c (.int .i64 1))⟩])
    (.seq
     (.seq
      (.reg [⟨some 28, none, .mov (.t 1)⟩])
      (.cond (.t 28)
       (.reg [⟨some 7, none, .mov (.c (.int .i64 2))⟩])
       .skip))
     (.seq
      (.reg [⟨some 30, none, .mov (.t 0)⟩,
       ⟨some 31, none, .conv (.int .i64) (.t 30)⟩,
       ⟨some 32, none, .bin .add (.c (.int .i64 16)) (.t 31)⟩,
       ⟨some 33, none, .mov (.t 7)⟩,
       ⟨some 34, none, .call false 9 [(.t 32), (.t 33)]⟩,
       ⟨some 29, none, .mov (.t 34)⟩,
       ⟨some 35, none, .ext (.t 29) 0⟩,
       ⟨some 36, none, .ext (.t 29) 1⟩,
       ⟨some 8, none, .alloc [(.int .i64 0), .nilS, (.int .i64 0), (.int .i64 0), (.int .i64 0), (.int .i64 0)]⟩,
       ⟨none, none, .store 6 (.t 8) (.t 35)⟩,
       ⟨some 9, none, .mov (.t 36)⟩])
      (.seq
       (.seq
        (.reg [⟨some 37, none, .mov (.t 9)⟩,
         ⟨some 38, none, .bin .neq (.t 37) (.c (.int .i64 0))⟩])
        (.cond (.t 38)
         (.seq
          (.reg [⟨some 6, none, .mov (.c (.bool false))⟩])
          .ret)
         .skip))
       (.seq
        (.reg [⟨some 10, none, .nilv 1⟩])
        (.seq
         (.reg [⟨some 11, none, .mov (.c (.int .i64 0))⟩,
          ⟨some 12, none, .mov (.c (.int .i64 0))⟩])
         (.seq
          (.seq
           (.reg [⟨some 13, none, .mov (.c (.int .i64 0))⟩])
           (.block 0
            (.loop [0, 1, 2, 8, 10, 11, 12, 13]
             c7b1)))
          c7r1))))))))), none⟩
def k7 : List (List Nat) := [[0, 1, 2, 8, 10, 11, 12, 13], [0, 1, 2, 8, 10, 11, 12, 13, 14, 18, 20]]
def o7 : List Nat := [3000000]
/-- tracebook/tracebooklaw09.RingMoves -/
def c8 : AFn := ⟨3, 142, [.t 6],
 (.seq
  (.reg [⟨some 3, none, .box (.t 0)⟩,
   ⟨some 6, none, .mov (.c (.bool false))⟩])
  (.seq
   (.seq
    (.reg [⟨some 19, none, .load 6 true (.t 3)⟩,
     ⟨some 20, none, .mov (.t 1)⟩,
     ⟨some 21, none, .call false 15 [(.t 19), (.t 20)]⟩,
     ⟨some 22, none, .un .not (.t 21)⟩,
     ⟨some 23, none, .mov (.t 22)⟩,
     ⟨some 24, some (23, false), .load 6 true (.t 3)⟩,
     ⟨some 25, some (23, false), .call false 11 [(.t 24)]⟩,
     ⟨some 26, some (23, false), .bin .neq (.t 25) (.c (.int .i64 0))⟩,
     ⟨some 27, none, .pick (.t 23) (.c (.bool true)) (.t 26)⟩])
    (.cond (.t 27)
     (.seq
      (.reg [⟨some 28, none, .call false 14 []⟩,
       ⟨some 6, none, .mov (.t 28)⟩])
      .ret)
     .skip))
   (.seq
    (.reg [⟨some 29, none, .mov (.t 2)⟩,
     ⟨some 30, none, .conv (.int .i64) (.t 29)⟩,
     ⟨some 31, none, .faddr 1 (.t 3)⟩,
     ⟨some 32, none, .load 1 false (.t 31)⟩,
     ⟨some 33, none, .len (.t 32)⟩,
     ⟨some 34, none, .bin .mul (.t 30) (.t 33)⟩,
     ⟨some 7, none, .mov (.t 34)⟩])
    (.seq
     (.seq
      (.reg [⟨some 35, none, .faddr 3 (.t 3)⟩,
       ⟨some 36, none, .load 1 false (.t 35)⟩,
       ⟨some 37, none, .mov (.t 7)⟩,
       ⟨some 38, none, .bin .sub (.c (.int .i64 1000000000000000)) (.t 37)⟩,
       ⟨some 39, none, .bin .sub (.t 38) (.c (.int .i64 65536))⟩,
       ⟨some 40, none, .bin .gtr (.t 36) (.t 39)⟩,
       ⟨some 41, none, .mov (.t 40)⟩,
       ⟨some 42, some (41, false), .faddr 5 (.t 3)⟩,
       ⟨some 43, some (41, false), .load 1 false (.t 42)⟩,
       ⟨some 44, some (41, false), .bin .geq (.t 43) (.c (.int .i64 1000000000000000))⟩,
       ⟨some 45, none, .pick (.t 41) (.c (.bool true)) (.t 44)⟩])
      (.cond (.t 45)
       (.seq
        (.reg [⟨some 46, none, .call false 14 []⟩,
         ⟨some 6, none, .mov (.t 46)⟩])
        .ret)
       .skip))
     (.seq
      (.reg [⟨some 47, none, .load 6 true (.t 3)⟩,
       ⟨some 8, none, .alloc [(.int .i64 0), .nilS, (.int .i64 0), (.int .i64 0), (.int .i64 0), (.int .i64 0)]⟩,
       ⟨none, none, .store 6 (.t 8) (.t 47)⟩])
      (.seq
       (.reg [⟨some 48, none, .faddr 2 (.t 3)⟩,
        ⟨some 49, none, .load 1 false (.t 48)⟩,
        ⟨some 50, none, .mov (.t 7)⟩,
        ⟨some 51, none, .bin .add (.t 49) (.t 50)⟩,
        ⟨some 52, none, .faddr 2 (.t 8)⟩,
        ⟨none, none, .store 1 (.t 52) (.t 51)⟩])
       (.seq
        (.reg [⟨some 53, none, .faddr 3 (.t 3)⟩,
         ⟨some 54, none, .load 1 false (.t 53)⟩,
         ⟨some 55, none, .mov (.t 7)⟩,
         ⟨some 56, none, .bin .add (.t 54) (.t 55)⟩,
         ⟨some 57, none, .faddr 3 (.t 8)⟩,
         ⟨none, none, .store 1 (.t 57) (.t 56)⟩])
        (.seq
         (.reg [⟨some 59, none, .load 6 true (.t 3)⟩,
          ⟨some 60, none, .call false 16 [(.t 59)]⟩,
          ⟨some 58, none, .mov (.t 60)⟩,
          ⟨some 61, none, .ext (.t 58) 0⟩,
          ⟨some 62, none, .ext (.t 58) 1⟩,
          ⟨some 10, none, .alloc [(.int .i64 0), .nilS, (.int .i64 0), (.int .i64 0), (.int .i64 0), (.int .i64 0)]⟩,
          ⟨some 9, none, .mov (.t 61)⟩,
          ⟨none, none, .store 6 (.t 10) (.t 62)⟩])
         (.seq
          (.reg [⟨some 64, none, .load 6 true (.t 8)⟩,
           ⟨some 65, none, .call false 16 [(.t 64)]⟩,
           ⟨some 63, none, .mov (.t 65)⟩,
           ⟨some 66, none, .ext (.t 63) 0⟩,
           ⟨some 67, none, .ext (.t 63) 1⟩,
           ⟨some 12, none, .alloc [(.int .i64 0), .nilS, (.int .i64 0), (.int .i64 0), (.int .i64 0), (.int .i64 0)]⟩,
           ⟨some 11, none, .mov (.t 66)⟩,
           ⟨none, none, .store 6 (.t 12) (.t 67)⟩])
          (.seq
           (.reg [⟨some 69, none, .load 6 true (.t 3)⟩,
            ⟨some 70, none, .mov (.t 1)⟩,
            ⟨some 71, none, .call false 23 [(.t 69), (.t 70)]⟩,
            ⟨some 68, none, .mov (.t 71)⟩,
            ⟨some 72, none, .ext (.t 68) 0⟩,
            ⟨some 73, none, .ext (.t 68) 1⟩,
            ⟨some 74, none, .ext (.t 68) 2⟩,
            ⟨some 13, none, .alloc [(.int .i64 0), .nilS, (.int .i64 0), (.int .i64 0), (.int .i64 0), (.int .i64 0)]⟩,
            ⟨none, none, .store 6 (.t 13) (.t 72)⟩,
            ⟨some 14, none, .mov (.t 73)⟩,
            ⟨some 15, none, .mov (.t 74)⟩])
           (.seq
            (.reg [⟨some 76, none, .load 6 true (.t 8)⟩,
             ⟨some 77, none, .mov (.t 1)⟩,
             ⟨some 78, none, .call false 23 [(.t 76), (.t 77)]⟩,
             ⟨some 75, none, .mov (.t 78)⟩,
             ⟨some 79, none, .ext (.t 75) 0⟩,
             ⟨some 80, none, .ext (.t 75) 1⟩,
             ⟨some 81, none, .ext (.t 75) 2⟩,
             ⟨some 16, none, .alloc [(.int .i64 0), .nilS, (.int .i64 0), (.int .i64 0), (.int .i64 0), (.int .i64 0)]⟩,
             ⟨none, none, .store 6 (.t 16) (.t 79)⟩,
             ⟨some 17, none, .mov (.t 80)⟩,
             ⟨some 18, none, .mov (.t 81)⟩])
            (.seq
             (.reg [⟨some 82, none, .load 6 true (.t 8)⟩,
              ⟨some 83, none, .call false 11 [(.t 82)]⟩,
              ⟨some 84, none, .bin .eql (.t 83) (.c (.int .i64 0))⟩,
              ⟨some 85, none, .mov (.t 84)⟩,
              ⟨some 86, some (85, true), .load 6 true (.t 8)⟩,
              ⟨some 87, some (85, true), .call false 12 [(.t 86)]⟩,
              ⟨some 88, some (85, true), .load 6 true (.t 3)⟩,
              ⟨some 89, some (85, true), .call false 12 [(.t 88)]⟩,
              ⟨some 90, some (85, true), .bin .eql (.t 87) (.t 89)⟩,
              ⟨some 91, none, .pick (.t 85) (.t 90) (.c (.bool false))⟩,
              ⟨some 92, none, .mov (.t 91)⟩,
              ⟨some 93, some (92, true), .load 6 true (.t 8)⟩,
              ⟨some 94, some (92, true), .call false 13 [(.t 93)]⟩,
              ⟨some 95, some (92, true), .load 6 true (.t 3)⟩,
              ⟨some 96, some (92, true), .call false 13 [(.t 95)]⟩,
              ⟨some 97, some (92, true), .bin .eql (.t 94) (.t 96)⟩,
              ⟨some 98, none, .pick (.t 92) (.t 97) (.c (.bool false))⟩,
              ⟨some 99, none, .mov (.t 98)⟩,
              ⟨some 100, some (99, true), .mov (.t 9)⟩,
              ⟨some 101, some (99, true), .mov (.t 11)⟩,
              ⟨some 102, some (99, true), .call false 21 [(.t 100), (.t 101)]⟩,
              ⟨some 103, none, .pick (.t 99) (.t 102) (.c (.bool false))⟩,
              ⟨some 104, none, .mov (.t 103)⟩,
              ⟨some 105, some (104, true), .mov (.t 14)⟩,
              ⟨some 106, some (104, true), .mov (.t 17)⟩,
              ⟨some 107, some (104, true), .bin .eql (.t 105) (.t 106)⟩,
              ⟨some 108, none, .pick (.t 104) (.t 107) (.c (.bool false))⟩,
              ⟨some 109, none, .mov (.t 108)⟩,
              ⟨some 110, some (109, true), .mov (.t 15)⟩,
              ⟨some 111, some (109, true), .mov (.t 18)⟩,
              ⟨some 112, some (109, true), .bin .eql (.t 110) (.t 111)⟩,
              ⟨some 113, none, .pick (.t 109) (.t 112) (.c (.bool false))⟩,
              ⟨some 114, none, .mov (.t 113)⟩,
              ⟨some 115, some (114, true), .faddr 2 (.t 16)⟩,
              ⟨some 116, some (114, true), .load 1 false (.t 115)⟩,
              ⟨some 117, some (114, true), .faddr 2 (.t 13)⟩,
              ⟨some 118, some (114, true), .load 1 false (.t 117)⟩,
              ⟨some 119, some (114, true), .bin .sub (.t 116) (.t 118)⟩,
              ⟨some 120, some (114, true), .mov (.t 7)⟩,
              ⟨some 121, some (114, true), .bin .eql (.t 119) (.t 120)⟩,
              ⟨some 122, none, .pick (.t 114) (.t 121) (.c (.bool false))⟩,
              ⟨some 123, none, .mov (.t 122)⟩,
              ⟨some 124, some (123, true), .faddr 3 (.t 16)⟩,
              ⟨some 125, some (123, true), .load 1 false (.t 124)⟩,
              ⟨some 126, some (123, true), .faddr 3 (.t 13)⟩,
              ⟨some 127, some (123, true), .load 1 false (.t 126)⟩,
              ⟨some 128, some (123, true), .bin .sub (.t 125) (.t 127)⟩,
              ⟨some 129, some (123, true), .mov (.t 7)⟩,
              ⟨some 130, some (123, true), .bin .eql (.t 128) (.t 129)⟩,
              ⟨some 131, none, .pick (.t 123) (.t 130) (.c (.bool false))⟩,
              ⟨some 132, none, .mov (.t 131)⟩,
              ⟨some 133, some (132, true), .faddr 4 (.t 16)⟩,
              ⟨some 134, some (132, true), .load 1 false (.t 133)⟩,
              ⟨some 135, some (132, true), .faddr 4 (.t 13)⟩,
              ⟨some 136, some (132, true), .load 1 false (.t 135)⟩,
              ⟨some 137, some (132, true), .bin .eql (.t 134) (.t 136)⟩,
              ⟨some 138, none, .pick (.t 132) (.t 137) (.c (.bool false))⟩,
              ⟨some 139, none, .mov (.t 138)⟩,
              ⟨some 140, some (139, true), .call false 14 []⟩,
              ⟨some 141, none, .pick (.t 139) (.t 140) (.c (.bool false))⟩,
              ⟨some 6, none, .mov (.t 141)⟩])
             .ret)))))))))))), none⟩
def k8 : List (List Nat) := []
def o8 : List Nat := [3000000]
/-- tracebook/ring.New -/
def c9 : AFn := ⟨2, 21, [.c 4 6 true, .t 5],
 (.seq
  (.reg [⟨some 4, none, .alloc [(.int .i64 0), .nilS, (.int .i64 0), (.int .i64 0), (.int .i64 0), (.int .i64 0)]⟩,
   ⟨some 5, none, .mov (.c (.int .i64 0))⟩])
  (.seq
   (.seq
    (.reg [⟨some 6, none, .mov (.t 0)⟩,
     ⟨some 7, none, .bin .lss (.t 6) (.c (.int .i64 16))⟩,
     ⟨some 8, none, .mov (.t 7)⟩,
     ⟨some 9, some (8, false), .mov (.t 0)⟩,
     ⟨some 10, some (8, false), .bin .gtr (.t 9) (.c (.int .i64 65536))⟩,
     ⟨some 11, none, .pick (.t 8) (.c (.bool true)) (.t 10)⟩])
    (.cond (.t 11)
     (.seq
      (.reg [⟨some 12, none, .build [(.int .i64 0), .nilS, (.int .i64 0), (.int .i64 0), (.int .i64 0), (.int .i64 0)] []⟩,
       ⟨none, none, .store 6 (.t 4) (.t 12)⟩,
       ⟨some 5, none, .mov (.c (.int .i64 2))⟩])
      .ret)
     .skip))
   (.seq
    (.seq
     (.reg [⟨some 13, none, .mov (.t 1)⟩,
      ⟨some 14, none, .call false 26 [(.t 13)]⟩,
      ⟨some 15, none, .un .not (.t 14)⟩])
     (.cond (.t 15)
      (.seq
       (.reg [⟨some 16, none, .build [(.int .i64 0), .nilS, (.int .i64 0), (.int .i64 0), (.int .i64 0), (.int .i64 0)] []⟩,
        ⟨none, none, .store 6 (.t 4) (.t 16)⟩,
        ⟨some 5, none, .mov (.c (.int .i64 1))⟩])
       .ret)
      .skip))
    (.seq
     (.reg [⟨some 17, none, .mov (.t 1)⟩,
      ⟨some 18, none, .mov (.t 0)⟩,
      ⟨some 19, none, .makez 1 1 [(.int .u8 0)] (.t 18) (.t 18)⟩,
      ⟨some 20, none, .build [(.int .i64 0), .nilS, (.int .i64 0), (.int .i64 0), (.int .i64 0), (.int .i64 0)] [(0, 1, (.t 17)), (1, 1, (.t 19))]⟩,
      ⟨none, none, .store 6 (.t 4) (.t 20)⟩,
      ⟨some 5, none, .mov (.c (.int .i64 0))⟩])
     .ret)))), none⟩
def k9 : List (List Nat) := []
def o9 : List Nat := [3000000]
/-- tracebook/tracebookref09.New -/
def c10 : AFn := ⟨2, 24, [.c 4 6 true, .t 5],
 (.seq
  (.reg [⟨some 4, none, .alloc [(.int .i64 0), .nilS, (.int .i64 0), (.int .i64 0), (.int .i64 0), (.int .i64 0)]⟩,
   ⟨some 5, none, .mov (.c (.int .i64 0))⟩])
  (.seq
   (.seq
    (.reg [⟨some 6, none, .mov (.t 0)⟩,
     ⟨some 7, none, .bin .lss (.t 6) (.c (.int .i64 16))⟩,
     ⟨some 8, none, .mov (.t 7)⟩,
     ⟨some 9, some (8, false), .mov (.t 0)⟩,
     ⟨some 10, some (8, false), .bin .gtr (.t 9) (.c (.int .i64 65536))⟩,
     ⟨some 11, none, .pick (.t 8) (.c (.bool true)) (.t 10)⟩])
    (.cond (.t 11)
     (.seq
      (.reg [⟨some 12, none, .build [(.int .i64 0), .nilS, (.int .i64 0), (.int .i64 0), (.int .i64 0), (.int .i64 0)] []⟩,
       ⟨none, none, .store 6 (.t 4) (.t 12)⟩,
       ⟨some 5, none, .mov (.c (.int .i64 2))⟩])
      .ret)
     .skip))
   (.seq
    (.seq
     (.reg [⟨some 13, none, .mov (.t 1)⟩,
      ⟨some 14, none, .bin .neq (.t 13) (.c (.int .i64 1))⟩,
      ⟨some 15, none, .mov (.t 14)⟩,
      ⟨some 16, some (15, true), .mov (.t 1)⟩,
      ⟨some 17, some (15, true), .bin .neq (.t 16) (.c (.int .i64 2))⟩,
      ⟨some 18, none, .pick (.t 15) (.t 17) (.c (.bool false))⟩])
     (.cond (.t 18)
      (.seq
       (.reg [⟨some 19, none, .build [(.int .i64 0), .nilS, (.int .i64 0), (.int .i64 0), (.int .i64 0), (.int .i64 0)] []⟩,
        ⟨none, none, .store 6 (.t 4) (.t 19)⟩,
        ⟨some 5, none, .mov (.c (.int .i64 1))⟩])
       .ret)
      .skip))
    (.seq
     (.reg [⟨some 20, none, .mov (.t 1)⟩,
      ⟨some 21, none, .mov (.t 0)⟩,
      ⟨some 22, none, .makez 1 1 [(.int .u8 0)] (.t 21) (.t 21)⟩,
      ⟨some 23, none, .build [(.int .i64 0), .nilS, (.int .i64 0), (.int .i64 0), (.int .i64 0), (.int .i64 0)] [(0, 1, (.t 20)), (1, 1, (.t 22))]⟩,
      ⟨none, none, .store 6 (.t 4) (.t 23)⟩,
      ⟨some 5, none, .mov (.c (.int .i64 0))⟩])
     .ret)))), none⟩
def k10 : List (List Nat) := []
def o10 : List Nat := [3000000]
/-- tracebook/ring.Check -/
def c11 : AFn := ⟨1, 11, [.t 2],
 (.seq
  (.reg [⟨some 1, none, .box (.t 0)⟩,
   ⟨some 2, none, .mov (.c (.int .i64 0))⟩])
  (.seq
   (.reg [⟨some 6, none, .load 6 true (.t 1)⟩,
    ⟨some 7, none, .call false 27 [(.t 6)]⟩,
    ⟨some 5, none, .mov (.t 7)⟩,
    ⟨some 8, none, .ext (.t 5) 0⟩,
    ⟨some 9, none, .ext (.t 5) 1⟩,
    ⟨some 3, none, .mov (.t 8)⟩,
    ⟨some 4, none, .mov (.t 9)⟩])
   (.seq
    (.reg [⟨some 10, none, .mov (.t 4)⟩,
     ⟨some 2, none, .mov (.t 10)⟩])
    .ret))), none⟩
def k11 : List (List Nat) := []
def o11 : List Nat := [3000000]
/-- tracebook/ring.Count -/
def c12 : AFn := ⟨1, 11, [.t 2],
 (.seq
  (.reg [⟨some 1, none, .box (.t 0)⟩,
   ⟨some 2, none, .mov (.c (.int .i64 0))⟩])
  (.seq
   (.seq
    (.reg [⟨some 3, none, .load 6 true (.t 1)⟩,
     ⟨some 4, none, .call false 11 [(.t 3)]⟩,
     ⟨some 5, none, .bin .neq (.t 4) (.c (.int .i64 0))⟩])
    (.cond (.t 5)
     (.seq
      (.reg [⟨some 2, none, .mov (.c (.int .i64 0))⟩])
      .ret)
     .skip))
   (.seq
    (.reg [⟨some 6, none, .faddr 5 (.t 1)⟩,
     ⟨some 7, none, .load 1 false (.t 6)⟩,
     ⟨some 8, none, .faddr 4 (.t 1)⟩,
     ⟨some 9, none, .load 1 false (.t 8)⟩,
     ⟨some 10, none, .bin .sub (.t 7) (.t 9)⟩,
     ⟨some 2, none, .mov (.t 10)⟩])
    .ret))), none⟩
def k12 : List (List Nat) := []
def o12 : List Nat := [3000000]
/-- tracebook/ring.Free -/
def c13 : AFn := ⟨1, 8, [.t 2],
 (.seq
  (.reg [⟨some 1, none, .box (.t 0)⟩,
   ⟨some 2, none, .mov (.c (.int .i64 0))⟩])
  (.seq
   (.seq
    (.reg [⟨some 3, none, .load 6 true (.t 1)⟩,
     ⟨some 4, none, .call false 11 [(.t 3)]⟩,
     ⟨some 5, none, .bin .neq (.t 4) (.c (.int .i64 0))⟩])
    (.cond (.t 5)
     (.seq
      (.reg [⟨some 2, none, .mov (.c (.int .i64 0))⟩])
      .ret)
     .skip))
   (.seq
    (.reg [⟨some 6, none, .load 6 true (.t 1)⟩,
     ⟨some 7, none, .call false 28 [(.t 6)]⟩,
     ⟨some 2, none, .mov (.t 7)⟩])
    .ret))), none⟩
def k13 : List (List Nat) := []
def o13 : List Nat := [3000000]
def c14b0 : AC := (.seq
             (.seq
              (.reg [⟨some 49, none, .mov (.t 12)⟩,
               ⟨some 50, none, .bin .lss (.t 49) (.c (.int .i64 4))⟩])
              (.cond (.t 50)
               .skip
               (.exit 0)))
             (.seq
              (.block 1
               (.seq
                (.reg [⟨some 53, none, .mov (.t 12)⟩,
                 ⟨some 54, none, .conv (.int .u8) (.t 53)⟩,
                 ⟨some 55, none, .bslice false 1 [(.int .u8 0)] 3 [(0, (.t 54)), (1, (.c (.int .u8 1))), (2, (.c (.int .u8 2)))]⟩,
                 ⟨some 13, none, .mov (.t 55)⟩])
                (.seq
                 (.reg [⟨some 57, none, .load 6 true (.t 1)⟩,
                  ⟨some 58, none, .mov (.t 13)⟩,
                  ⟨some 59, none, .call false 23 [(.t 57), (.t 58)]⟩,
                  ⟨some 56, none, .mov (.t 59)⟩,
                  ⟨some 60, none, .ext (.t 56) 0⟩,
                  ⟨some 61, none, .ext (.t 56) 1⟩,
                  ⟨some 62, none, .ext (.t 56) 2⟩,
                  ⟨none, none, .store 6 (.t 1) (.t 60)⟩,
                  ⟨some 2, none, .mov (.t 62)⟩])
                 (.seq
                  (.reg [⟨some 64, none, .load 6 true (.t 3)⟩,
                   ⟨some 65, none, .mov (.t 13)⟩,
                   ⟨some 66, none, .call false 23 [(.t 64), (.t 65)]⟩,
                   ⟨some 63, none, .mov (.t 66)⟩,
                   ⟨some 67, none, .ext (.t 63) 0⟩,
                   ⟨some 68, none, .ext (.t 63) 1⟩,
                   ⟨some 69, none, .ext (.t 63) 2⟩,
                   ⟨none, none, .store 6 (.t 3) (.t 67)⟩,
                   ⟨some 4, none, .mov (.t 69)⟩])
                  (.seq
                   (.reg [⟨some 70, none, .mov (.t 2)⟩,
                    ⟨some 71, none, .bin .neq (.t 70) (.c (.int .i64 0))⟩,
                    ⟨some 72, none, .mov (.t 71)⟩,
                    ⟨some 73, some (72, false), .mov (.t 4)⟩,
                    ⟨some 74, some (72, false), .bin .neq (.t 73) (.c (.int .i64 0))⟩,
                    ⟨some 75, none, .pick (.t 72) (.c (.bool true)) (.t 74)⟩,
                    ⟨some 76, none, .mov (.t 75)⟩,
                    ⟨some 77, some (76, false), .load 6 true (.t 1)⟩,
                    ⟨some 78, some (76, false), .call false 13 [(.t 77)]⟩,
                    ⟨some 79, some (76, false), .mov (.t 12)⟩,
                    ⟨some 80, some (76, false), .bin .mul (.c (.int .i64 4)) (.t 79)⟩,
                    ⟨some 81, some (76, false), .bin .sub (.c (.int .i64 12)) (.t 80)⟩,
                    ⟨some 82, some (76, false), .bin .neq (.t 78) (.t 81)⟩,
                    ⟨some 83, none, .pick (.t 76) (.c (.bool true)) (.t 82)⟩])
                   (.cond (.t 83)
                    (.seq
                     (.reg [⟨some 0, none, .mov (.c (.bool false))⟩])
                     .ret)
                    .skip))))))
              (.reg [⟨some 51, none, .mov (.t 12)⟩,
               ⟨some 52, none, .bin .add (.t 51) (.c (.int .i64 1))⟩,
               ⟨some 12, none, .mov (.t 52)⟩])))
def c14r0 : AC := (.seq
          (.reg [⟨some 85, none, .load 6 true (.t 1)⟩,
           ⟨some 86, none, .bslice false 1 [(.int .u8 0)] 3 [(0, (.c (.int .u8 4))), (1, (.c (.int .u8 1))), (2, (.c (.int .u8 2)))]⟩,
           ⟨some 87, none, .call false 23 [(.t 85), (.t 86)]⟩,
           ⟨some 84, none, .mov (.t 87)⟩,
           ⟨some 88, none, .ext (.t 84) 0⟩,
           ⟨some 89, none, .ext (.t 84) 1⟩,
           ⟨some 90, none, .ext (.t 84) 2⟩,
           ⟨none, none, .store 6 (.t 1) (.t 88)⟩,
           ⟨some 14, none, .mov (.t 89)⟩,
           ⟨some 2, none, .mov (.t 90)⟩])
          (.seq
           (.reg [⟨some 92, none, .load 6 true (.t 3)⟩,
            ⟨some 93, none, .bslice false 1 [(.int .u8 0)] 3 [(0, (.c (.int .u8 4))), (1, (.c (.int .u8 1))), (2, (.c (.int .u8 2)))]⟩,
            ⟨some 94, none, .call false 23 [(.t 92), (.t 93)]⟩,
            ⟨some 91, none, .mov (.t 94)⟩,
            ⟨some 95, none, .ext (.t 91) 0⟩,
            ⟨some 96, none, .ext (.t 91) 1⟩,
            ⟨some 97, none, .ext (.t 91) 2⟩,
            ⟨some 15, none, .alloc [(.int .i64 0), .nilS, (.int .i64 0), (.int .i64 0), (.int .i64 0), (.int .i64 0)]⟩,
            ⟨none, none, .store 6 (.t 15) (.t 95)⟩,
            ⟨some 16, none, .mov (.t 96)⟩,
            ⟨some 17, none, .mov (.t 97)⟩])
           (.seq
            (.reg [⟨some 99, none, .load 6 true (.t 1)⟩,
             ⟨some 100, none, .call false 16 [(.t 99)]⟩,
             ⟨some 98, none, .mov (.t 100)⟩,
             ⟨some 101, none, .ext (.t 98) 0⟩,
             ⟨some 102, none, .ext (.t 98) 1⟩,
             ⟨some 19, none, .alloc [(.int .i64 0), .nilS, (.int .i64 0), (.int .i64 0), (.int .i64 0), (.int .i64 0)]⟩,
             ⟨some 18, none, .mov (.t 101)⟩,
             ⟨none, none, .store 6 (.t 19) (.t 102)⟩])
            (.seq
             (.reg [⟨some 103, none, .mov (.t 6)⟩,
              ⟨some 104, none, .bin .eql (.t 103) (.c (.int .i64 2))⟩,
              ⟨some 105, none, .mov (.t 104)⟩,
              ⟨some 106, some (105, true), .mov (.t 8)⟩,
              ⟨some 107, some (105, true), .bin .eql (.t 106) (.c (.int .i64 1))⟩,
              ⟨some 108, none, .pick (.t 105) (.t 107) (.c (.bool false))⟩,
              ⟨some 109, none, .mov (.t 108)⟩,
              ⟨some 110, some (109, true), .mov (.t 11)⟩,
              ⟨some 111, some (109, true), .bin .eql (.t 110) (.c (.int .i64 7))⟩,
              ⟨some 112, none, .pick (.t 109) (.t 111) (.c (.bool false))⟩,
              ⟨some 113, none, .mov (.t 112)⟩,
              ⟨some 114, some (113, true), .mov (.t 14)⟩,
              ⟨some 115, some (113, true), .bin .eql (.t 114) (.c (.int .i64 1))⟩,
              ⟨some 116, none, .pick (.t 113) (.t 115) (.c (.bool false))⟩,
              ⟨some 117, none, .mov (.t 116)⟩,
              ⟨some 118, some (117, true), .mov (.t 2)⟩,
              ⟨some 119, some (117, true), .bin .eql (.t 118) (.c (.int .i64 0))⟩,
              ⟨some 120, none, .pick (.t 117) (.t 119) (.c (.bool false))⟩,
              ⟨some 121, none, .mov (.t 120)⟩,
              ⟨some 122, some (121, true), .faddr 4 (.t 1)⟩,
              ⟨some 123, some (121, true), .load 1 false (.t 122)⟩,
              ⟨some 124, some (121, true), .bin .eql (.t 123) (.c (.int .i64 1))⟩,
              ⟨some 125, none, .pick (.t 121) (.t 124) (.c (.bool false))⟩,
              ⟨some 126, none, .mov (.t 125)⟩,
              ⟨some 127, some (126, true), .faddr 5 (.t 1)⟩,
              ⟨some 128, some (126, true), .load 1 false (.t 127)⟩,
              ⟨some 129, some (126, true), .bin .eql (.t 128) (.c (.int .i64 5))⟩,
              ⟨some 130, none, .pick (.t 126) (.t 129) (.c (.bool false))⟩,
              ⟨some 131, none, .mov (.t 130)⟩,
              ⟨some 132, some (131, true), .faddr 2 (.t 1)⟩,
              ⟨some 133, some (131, true), .load 1 false (.t 132)⟩,
              ⟨some 134, some (131, true), .bin .eql (.t 133) (.c (.int .i64 4))⟩,
              ⟨some 135, none, .pick (.t 131) (.t 134) (.c (.bool false))⟩,
              ⟨some 136, none, .mov (.t 135)⟩,
              ⟨some 137, some (136, true), .faddr 3 (.t 1)⟩,
              ⟨some 138, some (136, true), .load 1 false (.t 137)⟩,
              ⟨some 139, some (136, true), .bin .eql (.t 138) (.c (.int .i64 20))⟩,
              ⟨some 140, none, .pick (.t 136) (.t 139) (.c (.bool false))⟩,
              ⟨some 141, none, .mov (.t 140)⟩,
              ⟨some 142, some (141, true), .load 6 true (.t 1)⟩,
              ⟨some 143, some (141, true), .call false 12 [(.t 142)]⟩,
              ⟨some 144, some (141, true), .bin .eql (.t 143) (.c (.int .i64 4))⟩,
              ⟨some 145, none, .pick (.t 141) (.t 144) (.c (.bool false))⟩,
              ⟨some 146, none, .mov (.t 145)⟩,
              ⟨some 147, some (146, true), .mov (.t 16)⟩,
              ⟨some 148, some (146, true), .bin .eql (.t 147) (.c (.int .i64 0))⟩,
              ⟨some 149, none, .pick (.t 146) (.t 148) (.c (.bool false))⟩,
              ⟨some 150, none, .mov (.t 149)⟩,
              ⟨some 151, some (150, true), .mov (.t 17)⟩,
              ⟨some 152, some (150, true), .bin .eql (.t 151) (.c (.int .i64 6))⟩,
              ⟨some 153, none, .pick (.t 150) (.t 152) (.c (.bool false))⟩,
              ⟨some 154, none, .mov (.t 153)⟩,
              ⟨some 155, some (154, true), .load 6 true (.t 15)⟩,
              ⟨some 156, some (154, true), .load 6 true (.t 3)⟩,
              ⟨some 157, some (154, true), .call false 22 [(.t 155), (.t 156)]⟩,
              ⟨some 158, none, .pick (.t 154) (.t 157) (.c (.bool false))⟩,
              ⟨some 159, none, .mov (.t 158)⟩,
              ⟨some 160, some (159, true), .mov (.t 18)⟩,
              ⟨some 161, some (159, true), .len (.t 160)⟩,
              ⟨some 162, some (159, true), .bin .eql (.t 161) (.c (.int .i64 4))⟩,
              ⟨some 163, none, .pick (.t 159) (.t 162) (.c (.bool false))⟩,
              ⟨some 164, none, .mov (.t 163)⟩,
              ⟨some 165, some (164, true), .mov (.t 18)⟩,
              ⟨some 166, some (164, true), .iaddr (.slice 1) (.t 165) (.c (.int .i64 0))⟩,
              ⟨some 167, some (164, true), .load 1 false (.t 166)⟩,
              ⟨some 168, some (164, true), .conv .toStr (.t 167)⟩,
              ⟨some 169, some (164, true), .bin .eql (.t 168) (.c (.str [1, 1, 2]))⟩,
              ⟨some 170, none, .pick (.t 164) (.t 169) (.c (.bool false))⟩,
              ⟨some 171, none, .mov (.t 170)⟩,
              ⟨some 172, some (171, true), .mov (.t 18)⟩,
              ⟨some 173, some (171, true), .iaddr (.slice 1) (.t 172) (.c (.int .i64 3))⟩,
              ⟨some 174, some (171, true), .load 1 false (.t 173)⟩,
              ⟨some 175, some (171, true), .conv .toStr (.t 174)⟩,
              ⟨some 176, some (171, true), .bin .eql (.t 175) (.c (.str [4, 1, 2]))⟩,
              ⟨some 177, none, .pick (.t 171) (.t 176) (.c (.bool false))⟩,
              ⟨some 178, none, .mov (.t 177)⟩,
              ⟨some 179, some (178, true), .faddr 4 (.t 19)⟩,
              ⟨some 180, some (178, true), .load 1 false (.t 179)⟩,
              ⟨some 181, some (178, true), .bin .eql (.t 180) (.c (.int .i64 5))⟩,
              ⟨some 182, none, .pick (.t 178) (.t 181) (.c (.bool false))⟩,
              ⟨some 183, none, .mov (.t 182)⟩,
              ⟨some 184, some (183, true), .faddr 2 (.t 19)⟩,
              ⟨some 185, some (183, true), .load 1 false (.t 184)⟩,
              ⟨some 186, some (183, true), .bin .eql (.t 185) (.c (.int .i64 20))⟩,
              ⟨some 187, none, .pick (.t 183) (.t 186) (.c (.bool false))⟩,
              ⟨some 188, none, .mov (.t 187)⟩,
              ⟨some 189, some (188, true), .load 6 true (.t 19)⟩,
              ⟨some 190, some (188, true), .call false 12 [(.t 189)]⟩,
              ⟨some 191, some (188, true), .bin .eql (.t 190) (.c (.int .i64 0))⟩,
              ⟨some 192, none, .pick (.t 188) (.t 191) (.c (.bool false))⟩,
              ⟨some 0, none, .mov (.t 192)⟩])
             .ret))))
/-- tracebook/tracebooklaw09.awake -/
def c14 : AFn := ⟨0, 193, [.t 0],
 (.seq
  (.reg [⟨some 0, none, .mov (.c (.bool false))⟩])
  (.seq
   (.reg [⟨some 21, none, .call false 9 [(.c (.int .i64 16)), (.c (.int .i64 1))]⟩,
    ⟨some 20, none, .mov (.t 21)⟩,
    ⟨some 22, none, .ext (.t 20) 0⟩,
    ⟨some 23, none, .ext (.t 20) 1⟩,
    ⟨some 1, none, .alloc [(.int .i64 0), .nilS, (.int .i64 0), (.int .i64 0), (.int .i64 0), (.int .i64 0)]⟩,
    ⟨none, none, .store 6 (.t 1) (.t 22)⟩,
    ⟨some 2, none, .mov (.t 23)⟩])
   (.seq
    (.reg [⟨some 25, none, .call false 9 [(.c (.int .i64 16)), (.c (.int .i64 2))]⟩,
     ⟨some 24, none, .mov (.t 25)⟩,
     ⟨some 26, none, .ext (.t 24) 0⟩,
     ⟨some 27, none, .ext (.t 24) 1⟩,
     ⟨some 3, none, .alloc [(.int .i64 0), .nilS, (.int .i64 0), (.int .i64 0), (.int .i64 0), (.int .i64 0)]⟩,
     ⟨none, none, .store 6 (.t 3) (.t 26)⟩,
     ⟨some 4, none, .mov (.t 27)⟩])
    (.seq
     (.seq
      (.reg [⟨some 28, none, .mov (.t 2)⟩,
       ⟨some 29, none, .bin .neq (.t 28) (.c (.int .i64 0))⟩,
       ⟨some 30, none, .mov (.t 29)⟩,
       ⟨some 31, some (30, false), .mov (.t 4)⟩,
       ⟨some 32, some (30, false), .bin .neq (.t 31) (.c (.int .i64 0))⟩,
       ⟨some 33, none, .pick (.t 30) (.c (.bool true)) (.t 32)⟩])
      (.cond (.t 33)
       (.seq
        (.reg [⟨some 0, none, .mov (.c (.bool false))⟩])
        .ret)
       .skip))
     (.seq
      (.reg [⟨some 35, none, .call false 9 [(.c (.int .i64 15)), (.c (.int .i64 2))]⟩,
       ⟨some 34, none, .mov (.t 35)⟩,
       ⟨some 36, none, .ext (.t 34) 0⟩,
       ⟨some 37, none, .ext (.t 34) 1⟩,
       ⟨some 5, none, .alloc [(.int .i64 0), .nilS, (.int .i64 0), (.int .i64 0), (.int .i64 0), (.int .i64 0)]⟩,
       ⟨none, none, .store 6 (.t 5) (.t 36)⟩,
       ⟨some 6, none, .mov (.t 37)⟩])
      (.seq
       (.reg [⟨some 39, none, .call false 9 [(.c (.int .i64 16)), (.c (.int .i64 3))]⟩,
        ⟨some 38, none, .mov (.t 39)⟩,
        ⟨some 40, none, .ext (.t 38) 0⟩,
        ⟨some 41, none, .ext (.t 38) 1⟩,
        ⟨some 7, none, .alloc [(.int .i64 0), .nilS, (.int .i64 0), (.int .i64 0), (.int .i64 0), (.int .i64 0)]⟩,
        ⟨none, none, .store 6 (.t 7) (.t 40)⟩,
        ⟨some 8, none, .mov (.t 41)⟩])
       (.seq
        (.reg [⟨some 43, none, .load 6 true (.t 1)⟩,
         ⟨some 44, none, .makez 1 1 [(.int .u8 0)] (.c (.int .i64 16)) (.c (.int .i64 16))⟩,
         ⟨some 45, none, .call false 23 [(.t 43), (.t 44)]⟩,
         ⟨some 42, none, .mov (.t 45)⟩,
         ⟨some 46, none, .ext (.t 42) 0⟩,
         ⟨some 47, none, .ext (.t 42) 1⟩,
         ⟨some 48, none, .ext (.t 42) 2⟩,
         ⟨some 9, none, .alloc [(.int .i64 0), .nilS, (.int .i64 0), (.int .i64 0), (.int .i64 0), (.int .i64 0)]⟩,
         ⟨none, none, .store 6 (.t 9) (.t 46)⟩,
         ⟨some 10, none, .mov (.t 47)⟩,
         ⟨some 11, none, .mov (.t 48)⟩])
        (.seq
         (.seq
          (.reg [⟨some 12, none, .mov (.c (.int .i64 0))⟩])
          (.block 0
           (.loop [1, 3, 6, 8, 11, 12]
            c14b0)))
         c14r0)))))))), none⟩
def k14 : List (List Nat) := [[1, 3, 6, 8, 11, 12]]
def o14 : List Nat := [3000000]
/-- tracebook/tracebooklaw09.small -/
def c15 : AFn := ⟨2, 14, [.t 4],
 (.seq
  (.reg [⟨some 2, none, .box (.t 0)⟩,
   ⟨some 4, none, .mov (.c (.bool false))⟩])
  (.seq
   (.reg [⟨some 5, none, .faddr 1 (.t 2)⟩,
    ⟨some 6, none, .load 1 false (.t 5)⟩,
    ⟨some 7, none, .len (.t 6)⟩,
    ⟨some 8, none, .bin .leq (.t 7) (.c (.int .i64 70000))⟩,
    ⟨some 9, none, .mov (.t 8)⟩,
    ⟨some 10, some (9, true), .mov (.t 1)⟩,
    ⟨some 11, some (9, true), .len (.t 10)⟩,
    ⟨some 12, some (9, true), .bin .leq (.t 11) (.c (.int .i64 70000))⟩,
    ⟨some 13, none, .pick (.t 9) (.t 12) (.c (.bool false))⟩,
    ⟨some 4, none, .mov (.t 13)⟩])
   .ret)), none⟩
def k15 : List (List Nat) := []
def o15 : List Nat := [3000000]
/-- tracebook/ring.Take -/
def c16 : AFn := ⟨1, 22, [.t 2, .c 3 6 true],
 (.seq
  (.reg [⟨some 1, none, .box (.t 0)⟩,
   ⟨some 2, none, .nilv 1⟩,
   ⟨some 3, none, .alloc [(.int .i64 0), .nilS, (.int .i64 0), (.int .i64 0), (.int .i64 0), (.int .i64 0)]⟩])
  (.seq
   (.reg [⟨some 7, none, .load 6 true (.t 1)⟩,
    ⟨some 8, none, .call false 27 [(.t 7)]⟩,
    ⟨some 6, none, .mov (.t 8)⟩,
    ⟨some 9, none, .ext (.t 6) 0⟩,
    ⟨some 10, none, .ext (.t 6) 1⟩,
    ⟨some 4, none, .mov (.t 9)⟩,
    ⟨some 5, none, .mov (.t 10)⟩])
   (.seq
    (.seq
     (.reg [⟨some 11, none, .mov (.t 5)⟩,
      ⟨some 12, none, .bin .neq (.t 11) (.c (.int .i64 0))⟩])
     (.cond (.t 12)
      (.seq
       (.reg [⟨some 13, none, .load 6 true (.t 1)⟩,
        ⟨some 2, none, .nilv 1⟩,
        ⟨none, none, .store 6 (.t 3) (.t 13)⟩])
       .ret)
      .skip))
    (.seq
     (.reg [⟨some 14, none, .faddr 3 (.t 1)⟩,
      ⟨some 15, none, .load 1 false (.t 14)⟩,
      ⟨some 16, none, .faddr 2 (.t 1)⟩,
      ⟨none, none, .store 1 (.t 16) (.t 15)⟩])
     (.seq
      (.reg [⟨some 17, none, .faddr 5 (.t 1)⟩,
       ⟨some 18, none, .load 1 false (.t 17)⟩,
       ⟨some 19, none, .faddr 4 (.t 1)⟩,
       ⟨none, none, .store 1 (.t 19) (.t 18)⟩])
      (.seq
       (.reg [⟨some 20, none, .mov (.t 4)⟩,
        ⟨some 21, none, .load 6 true (.t 1)⟩,
        ⟨some 2, none, .mov (.t 20)⟩,
        ⟨none, none, .store 6 (.t 3) (.t 21)⟩])
       .ret)))))), none⟩
def k16 : List (List Nat) := []
def o16 : List Nat := [3000000]
/-- tracebook/tracebookref09.Take -/
def c17 : AFn := ⟨1, 24, [.t 2, .c 3 6 true],
 (.seq
  (.reg [⟨some 1, none, .box (.t 0)⟩,
   ⟨some 2, none, .nilv 1⟩,
   ⟨some 3, none, .alloc [(.int .i64 0), .nilS, (.int .i64 0), (.int .i64 0), (.int .i64 0), (.int .i64 0)]⟩])
  (.seq
   (.seq
    (.reg [⟨some 6, none, .load 6 true (.t 1)⟩,
     ⟨some 7, none, .call false 18 [(.t 6)]⟩,
     ⟨some 8, none, .bin .neq (.t 7) (.c (.int .i64 0))⟩])
    (.cond (.t 8)
     (.seq
      (.reg [⟨some 9, none, .load 6 true (.t 1)⟩,
       ⟨some 2, none, .nilv 1⟩,
       ⟨none, none, .store 6 (.t 3) (.t 9)⟩])
      .ret)
     .skip))
   (.seq
    (.reg [⟨some 11, none, .load 6 true (.t 1)⟩,
     ⟨some 12, none, .call false 30 [(.t 11)]⟩,
     ⟨some 13, none, .call false 29 [(.t 12)]⟩,
     ⟨some 10, none, .mov (.t 13)⟩,
     ⟨some 14, none, .ext (.t 10) 0⟩,
     ⟨some 15, none, .ext (.t 10) 1⟩,
     ⟨some 4, none, .mov (.t 14)⟩,
     ⟨some 5, none, .mov (.t 15)⟩])
    (.seq
     (.reg [⟨some 16, none, .faddr 3 (.t 1)⟩,
      ⟨some 17, none, .load 1 false (.t 16)⟩,
      ⟨some 18, none, .faddr 2 (.t 1)⟩,
      ⟨none, none, .store 1 (.t 18) (.t 17)⟩])
     (.seq
      (.reg [⟨some 19, none, .faddr 5 (.t 1)⟩,
       ⟨some 20, none, .load 1 false (.t 19)⟩,
       ⟨some 21, none, .faddr 4 (.t 1)⟩,
       ⟨none, none, .store 1 (.t 21) (.t 20)⟩])
      (.seq
       (.reg [⟨some 22, none, .mov (.t 4)⟩,
        ⟨some 23, none, .load 6 true (.t 1)⟩,
        ⟨some 2, none, .mov (.t 22)⟩,
        ⟨none, none, .store 6 (.t 3) (.t 23)⟩])
       .ret)))))), none⟩
def k17 : List (List Nat) := []
def o17 : List Nat := [3000000]
/-- tracebook/tracebookref09.Check -/
def c18 : AFn := ⟨1, 84, [.t 2],
 (.seq
  (.reg [⟨some 1, none, .box (.t 0)⟩,
   ⟨some 2, none, .mov (.c (.int .i64 0))⟩])
  (.seq
   (.seq
    (.reg [⟨some 6, none, .faddr 0 (.t 1)⟩,
     ⟨some 7, none, .load 1 false (.t 6)⟩,
     ⟨some 8, none, .bin .neq (.t 7) (.c (.int .i64 1))⟩,
     ⟨some 9, none, .mov (.t 8)⟩,
     ⟨some 10, some (9, true), .faddr 0 (.t 1)⟩,
     ⟨some 11, some (9, true), .load 1 false (.t 10)⟩,
     ⟨some 12, some (9, true), .bin .neq (.t 11) (.c (.int .i64 2))⟩,
     ⟨some 13, none, .pick (.t 9) (.t 12) (.c (.bool false))⟩])
    (.cond (.t 13)
     (.seq
      (.reg [⟨some 2, none, .mov (.c (.int .i64 1))⟩])
      .ret)
     .skip))
   (.seq
    (.reg [⟨some 14, none, .faddr 1 (.t 1)⟩,
     ⟨some 15, none, .load 1 false (.t 14)⟩,
     ⟨some 16, none, .len (.t 15)⟩,
     ⟨some 3, none, .mov (.t 16)⟩])
    (.seq
     (.seq
      (.reg [⟨some 17, none, .mov (.t 3)⟩,
       ⟨some 18, none, .bin .lss (.t 17) (.c (.int .i64 16))⟩,
       ⟨some 19, none, .mov (.t 18)⟩,
       ⟨some 20, some (19, false), .mov (.t 3)⟩,
       ⟨some 21, some (19, false), .bin .gtr (.t 20) (.c (.int .i64 65536))⟩,
       ⟨some 22, none, .pick (.t 19) (.c (.bool true)) (.t 21)⟩,
       ⟨some 23, none, .mov (.t 22)⟩,
       ⟨some 24, some (23, false), .faddr 2 (.t 1)⟩,
       ⟨some 25, some (23, false), .load 1 false (.t 24)⟩,
       ⟨some 26, some (23, false), .bin .lss (.t 25) (.c (.int .i64 0))⟩,
       ⟨some 27, none, .pick (.t 23) (.c (.bool true)) (.t 26)⟩,
       ⟨some 28, none, .mov (.t 27)⟩,
       ⟨some 29, some (28, false), .faddr 2 (.t 1)⟩,
       ⟨some 30, some (28, false), .load 1 false (.t 29)⟩,
       ⟨some 31, some (28, false), .faddr 3 (.t 1)⟩,
       ⟨some 32, some (28, false), .load 1 false (.t 31)⟩,
       ⟨some 33, some (28, false), .bin .gtr (.t 30) (.t 32)⟩,
       ⟨some 34, none, .pick (.t 28) (.c (.bool true)) (.t 33)⟩,
       ⟨some 35, none, .mov (.t 34)⟩,
       ⟨some 36, some (35, false), .faddr 3 (.t 1)⟩,
       ⟨some 37, some (35, false), .load 1 false (.t 36)⟩,
       ⟨some 38, some (35, false), .bin .gtr (.t 37) (.c (.int .i64 1000000000000000))⟩,
       ⟨some 39, none, .pick (.t 35) (.c (.bool true)) (.t 38)⟩,
       ⟨some 40, none, .mov (.t 39)⟩,
       ⟨some 41, some (40, false), .faddr 3 (.t 1)⟩,
       ⟨some 42, some (40, false), .load 1 false (.t 41)⟩,
       ⟨some 43, some (40, false), .faddr 2 (.t 1)⟩,
       ⟨some 44, some (40, false), .load 1 false (.t 43)⟩,
       ⟨some 45, some (40, false), .bin .sub (.t 42) (.t 44)⟩,
       ⟨some 46, some (40, false), .mov (.t 3)⟩,
       ⟨some 47, some (40, false), .bin .gtr (.t 45) (.t 46)⟩,
       ⟨some 48, none, .pick (.t 40) (.c (.bool true)) (.t 47)⟩,
       ⟨some 49, none, .mov (.t 48)⟩,
       ⟨some 50, some (49, false), .faddr 4 (.t 1)⟩,
       ⟨some 51, some (49, false), .load 1 false (.t 50)⟩,
       ⟨some 52, some (49, false), .bin .lss (.t 51) (.c (.int .i64 0))⟩,
       ⟨some 53, none, .pick (.t 49) (.c (.bool true)) (.t 52)⟩,
       ⟨some 54, none, .mov (.t 53)⟩,
       ⟨some 55, some (54, false), .faddr 4 (.t 1)⟩,
       ⟨some 56, some (54, false), .load 1 false (.t 55)⟩,
       ⟨some 57, some (54, false), .faddr 5 (.t 1)⟩,
       ⟨some 58, some (54, false), .load 1 false (.t 57)⟩,
       ⟨some 59, some (54, false), .bin .gtr (.t 56) (.t 58)⟩,
       ⟨some 60, none, .pick (.t 54) (.c (.bool true)) (.t 59)⟩,
       ⟨some 61, none, .mov (.t 60)⟩,
       ⟨some 62, some (61, false), .faddr 5 (.t 1)⟩,
       ⟨some 63, some (61, false), .load 1 false (.t 62)⟩,
       ⟨some 64, some (61, false), .bin .gtr (.t 63) (.c (.int .i64 1000000000000000))⟩,
       ⟨some 65, none, .pick (.t 61) (.c (.bool true)) (.t 64)⟩])
      (.cond (.t 65)
       (.seq
        (.reg [⟨some 2, none, .mov (.c (.int .i64 2))⟩])
        .ret)
       .skip))
     (.seq
      (.reg [⟨some 67, none, .load 6 true (.t 1)⟩,
       ⟨some 68, none, .call false 30 [(.t 67)]⟩,
       ⟨some 69, none, .call false 29 [(.t 68)]⟩,
       ⟨some 66, none, .mov (.t 69)⟩,
       ⟨some 70, none, .ext (.t 66) 0⟩,
       ⟨some 71, none, .ext (.t 66) 1⟩,
       ⟨some 4, none, .mov (.t 70)⟩,
       ⟨some 5, none, .mov (.t 71)⟩])
      (.seq
       (.seq
        (.reg [⟨some 72, none, .mov (.t 5)⟩,
         ⟨some 73, none, .un .not (.t 72)⟩,
         ⟨some 74, none, .mov (.t 73)⟩,
         ⟨some 75, some (74, false), .mov (.t 4)⟩,
         ⟨some 76, some (74, false), .len (.t 75)⟩,
         ⟨some 77, some (74, false), .faddr 5 (.t 1)⟩,
         ⟨some 78, some (74, false), .load 1 false (.t 77)⟩,
         ⟨some 79, some (74, false), .faddr 4 (.t 1)⟩,
         ⟨some 80, some (74, false), .load 1 false (.t 79)⟩,
         ⟨some 81, some (74, false), .bin .sub (.t 78) (.t 80)⟩,
         ⟨some 82, some (74, false), .bin .neq (.t 76) (.t 81)⟩,
         ⟨some 83, none, .pick (.t 74) (.c (.bool true)) (.t 82)⟩])
        (.cond (.t 83)
         (.seq
          (.reg [⟨some 2, none, .mov (.c (.int .i64 10))⟩])
          .ret)
         .skip))
       (.seq
        (.reg [⟨some 2, none, .mov (.c (.int .i64 0))⟩])
        .ret))))))), none⟩
def k18 : List (List Nat) := []
def o18 : List Nat := [3000000]
/-- tracebook/tracebookref09.Count -/
def c19 : AFn := ⟨1, 11, [.t 2],
 (.seq
  (.reg [⟨some 1, none, .box (.t 0)⟩,
   ⟨some 2, none, .mov (.c (.int .i64 0))⟩])
  (.seq
   (.seq
    (.reg [⟨some 3, none, .load 6 true (.t 1)⟩,
     ⟨some 4, none, .call false 18 [(.t 3)]⟩,
     ⟨some 5, none, .bin .neq (.t 4) (.c (.int .i64 0))⟩])
    (.cond (.t 5)
     (.seq
      (.reg [⟨some 2, none, .mov (.c (.int .i64 0))⟩])
      .ret)
     .skip))
   (.seq
    (.reg [⟨some 6, none, .faddr 5 (.t 1)⟩,
     ⟨some 7, none, .load 1 false (.t 6)⟩,
     ⟨some 8, none, .faddr 4 (.t 1)⟩,
     ⟨some 9, none, .load 1 false (.t 8)⟩,
     ⟨some 10, none, .bin .sub (.t 7) (.t 9)⟩,
     ⟨some 2, none, .mov (.t 10)⟩])
    .ret))), none⟩
def k19 : List (List Nat) := []
def o19 : List Nat := [3000000]
/-- tracebook/tracebookref09.Free -/
def c20 : AFn := ⟨1, 15, [.t 2],
 (.seq
  (.reg [⟨some 1, none, .box (.t 0)⟩,
   ⟨some 2, none, .mov (.c (.int .i64 0))⟩])
  (.seq
   (.seq
    (.reg [⟨some 3, none, .load 6 true (.t 1)⟩,
     ⟨some 4, none, .call false 18 [(.t 3)]⟩,
     ⟨some 5, none, .bin .neq (.t 4) (.c (.int .i64 0))⟩])
    (.cond (.t 5)
     (.seq
      (.reg [⟨some 2, none, .mov (.c (.int .i64 0))⟩])
      .ret)
     .skip))
   (.seq
    (.reg [⟨some 6, none, .faddr 1 (.t 1)⟩,
     ⟨some 7, none, .load 1 false (.t 6)⟩,
     ⟨some 8, none, .len (.t 7)⟩,
     ⟨some 9, none, .faddr 3 (.t 1)⟩,
     ⟨some 10, none, .load 1 false (.t 9)⟩,
     ⟨some 11, none, .faddr 2 (.t 1)⟩,
     ⟨some 12, none, .load 1 false (.t 11)⟩,
     ⟨some 13, none, .bin .sub (.t 10) (.t 12)⟩,
     ⟨some 14, none, .bin .sub (.t 8) (.t 13)⟩,
     ⟨some 2, none, .mov (.t 14)⟩])
    .ret))), none⟩
def k20 : List (List Nat) := []
def o20 : List Nat := [3000000]
def c21b0 : AC := (.seq
        (.seq
         (.reg [⟨some 11, none, .mov (.t 5)⟩,
          ⟨some 12, none, .mov (.t 0)⟩,
          ⟨some 13, none, .len (.t 12)⟩,
          ⟨some 14, none, .bin .lss (.t 11) (.t 13)⟩])
         (.cond (.t 14)
          .skip
          (.exit 0)))
        (.seq
         (.block 1
          (.seq
           (.reg [⟨some 17, none, .mov (.t 0)⟩,
            ⟨some 18, none, .mov (.t 5)⟩,
            ⟨some 19, none, .iaddr (.slice 1) (.t 17) (.t 18)⟩,
            ⟨some 20, none, .load 1 false (.t 19)⟩,
            ⟨some 21, none, .conv .toStr (.t 20)⟩,
            ⟨some 22, none, .mov (.t 1)⟩,
            ⟨some 23, none, .mov (.t 5)⟩,
            ⟨some 24, none, .iaddr (.slice 1) (.t 22) (.t 23)⟩,
            ⟨some 25, none, .load 1 false (.t 24)⟩,
            ⟨some 26, none, .conv .toStr (.t 25)⟩,
            ⟨some 27, none, .bin .neq (.t 21) (.t 26)⟩])
           (.cond (.t 27)
            (.seq
             (.reg [⟨some 4, none, .mov (.c (.bool false))⟩])
             .ret)
            .skip)))
         (.reg [⟨some 15, none, .mov (.t 5)⟩,
          ⟨some 16, none, .bin .add (.t 15) (.c (.int .i64 1))⟩,
          ⟨some 5, none, .mov (.t 16)⟩])))
/-- tracebook/tracebookref09.SameBytes -/
def c21 : AFn := ⟨2, 28, [.t 4],
 (.seq
  (.reg [⟨some 4, none, .mov (.c (.bool false))⟩])
  (.seq
   (.seq
    (.reg [⟨some 6, none, .mov (.t 0)⟩,
     ⟨some 7, none, .len (.t 6)⟩,
     ⟨some 8, none, .mov (.t 1)⟩,
     ⟨some 9, none, .len (.t 8)⟩,
     ⟨some 10, none, .bin .neq (.t 7) (.t 9)⟩])
    (.cond (.t 10)
     (.seq
      (.reg [⟨some 4, none, .mov (.c (.bool false))⟩])
      .ret)
     .skip))
   (.seq
    (.seq
     (.reg [⟨some 5, none, .mov (.c (.int .i64 0))⟩])
     (.block 0
      (.loop [0, 1, 5]
       c21b0)))
    (.seq
     (.reg [⟨some 4, none, .mov (.c (.bool true))⟩])
     .ret)))), none⟩
def k21 : List (List Nat) := [[0, 1, 5]]
def o21 : List Nat := [3000000]
/-- tracebook/tracebookref09.Same -/
def c22 : AFn := ⟨2, 69, [.t 4],
 (.seq
  (.reg [⟨some 2, none, .box (.t 0)⟩,
   ⟨some 3, none, .box (.t 1)⟩,
   ⟨some 4, none, .mov (.c (.bool false))⟩])
  (.seq
   (.seq
    (.reg [⟨some 5, none, .faddr 0 (.t 2)⟩,
     ⟨some 6, none, .load 1 false (.t 5)⟩,
     ⟨some 7, none, .faddr 0 (.t 3)⟩,
     ⟨some 8, none, .load 1 false (.t 7)⟩,
     ⟨some 9, none, .bin .neq (.t 6) (.t 8)⟩,
     ⟨some 10, none, .mov (.t 9)⟩,
     ⟨some 11, some (10, false), .faddr 1 (.t 2)⟩,
     ⟨some 12, some (10, false), .load 1 false (.t 11)⟩,
     ⟨some 13, some (10, false), .len (.t 12)⟩,
     ⟨some 14, some (10, false), .faddr 1 (.t 3)⟩,
     ⟨some 15, some (10, false), .load 1 false (.t 14)⟩,
     ⟨some 16, some (10, false), .len (.t 15)⟩,
     ⟨some 17, some (10, false), .bin .neq (.t 13) (.t 16)⟩,
     ⟨some 18, none, .pick (.t 10) (.c (.bool true)) (.t 17)⟩,
     ⟨some 19, none, .mov (.t 18)⟩,
     ⟨some 20, some (19, false), .faddr 2 (.t 2)⟩,
     ⟨some 21, some (19, false), .load 1 false (.t 20)⟩,
     ⟨some 22, some (19, false), .faddr 2 (.t 3)⟩,
     ⟨some 23, some (19, false), .load 1 false (.t 22)⟩,
     ⟨some 24, some (19, false), .bin .neq (.t 21) (.t 23)⟩,
     ⟨some 25, none, .pick (.t 19) (.c (.bool true)) (.t 24)⟩,
     ⟨some 26, none, .mov (.t 25)⟩,
     ⟨some 27, some (26, false), .faddr 3 (.t 2)⟩,
     ⟨some 28, some (26, false), .load 1 false (.t 27)⟩,
     ⟨some 29, some (26, false), .faddr 3 (.t 3)⟩,
     ⟨some 30, some (26, false), .load 1 false (.t 29)⟩,
     ⟨some 31, some (26, false), .bin .neq (.t 28) (.t 30)⟩,
     ⟨some 32, none, .pick (.t 26) (.c (.bool true)) (.t 31)⟩,
     ⟨some 33, none, .mov (.t 32)⟩,
     ⟨some 34, some (33, false), .faddr 4 (.t 2)⟩,
     ⟨some 35, some (33, false), .load 1 false (.t 34)⟩,
     ⟨some 36, some (33, false), .faddr 4 (.t 3)⟩,
     ⟨some 37, some (33, false), .load 1 false (.t 36)⟩,
     ⟨some 38, some (33, false), .bin .neq (.t 35) (.t 37)⟩,
     ⟨some 39, none, .pick (.t 33) (.c (.bool true)) (.t 38)⟩,
     ⟨some 40, none, .mov (.t 39)⟩,
     ⟨some 41, some (40, false), .faddr 5 (.t 2)⟩,
     ⟨some 42, some (40, false), .load 1 false (.t 41)⟩,
     ⟨some 43, some (40, false), .faddr 5 (.t 3)⟩,
     ⟨some 44, some (40, false), .load 1 false (.t 43)⟩,
     ⟨some 45, some (40, false), .bin .neq (.t 42) (.t 44)⟩,
     ⟨some 46, none, .pick (.t 40) (.c (.bool true)) (.t 45)⟩])
    (.cond (.t 46)
     (.seq
      (.reg [⟨some 4, none, .mov (.c (.bool false))⟩])
      .ret)
     .skip))
   (.seq
    (.seq
     (.reg [⟨some 47, none, .load 6 true (.t 2)⟩,
      ⟨some 48, none, .call false 18 [(.t 47)]⟩,
      ⟨some 49, none, .bin .neq (.t 48) (.c (.int .i64 0))⟩,
      ⟨some 50, none, .mov (.t 49)⟩,
      ⟨some 51, some (50, false), .load 6 true (.t 3)⟩,
      ⟨some 52, some (50, false), .call false 18 [(.t 51)]⟩,
      ⟨some 53, some (50, false), .bin .neq (.t 52) (.c (.int .i64 0))⟩,
      ⟨some 54, none, .pick (.t 50) (.c (.bool true)) (.t 53)⟩])
     (.cond (.t 54)
      (.seq
       (.reg [⟨some 55, none, .faddr 1 (.t 2)⟩,
        ⟨some 56, none, .load 1 false (.t 55)⟩,
        ⟨some 57, none, .conv .toStr (.t 56)⟩,
        ⟨some 58, none, .faddr 1 (.t 3)⟩,
        ⟨some 59, none, .load 1 false (.t 58)⟩,
        ⟨some 60, none, .conv .toStr (.t 59)⟩,
        ⟨some 61, none, .bin .eql (.t 57) (.t 60)⟩,
        ⟨some 4, none, .mov (.t 61)⟩])
       .ret)
      .skip))
    (.seq
     (.reg [⟨some 62, none, .load 6 true (.t 2)⟩,
      ⟨some 63, none, .call false 30 [(.t 62)]⟩,
      ⟨some 64, none, .conv .toStr (.t 63)⟩,
      ⟨some 65, none, .load 6 true (.t 3)⟩,
      ⟨some 66, none, .call false 30 [(.t 65)]⟩,
      ⟨some 67, none, .conv .toStr (.t 66)⟩,
      ⟨some 68, none, .bin .eql (.t 64) (.t 67)⟩,
      ⟨some 4, none, .mov (.t 68)⟩])
     .ret)))), none⟩
def k22 : List (List Nat) := []
def o22 : List Nat := [3000000]
def c23b0 : AC := (.seq
              (.seq
               (.reg [⟨some 63, none, .mov (.t 9)⟩,
                ⟨some 64, none, .len (.t 63)⟩,
                ⟨some 65, none, .load 6 true (.t 10)⟩,
                ⟨some 66, none, .call false 28 [(.t 65)]⟩,
                ⟨some 67, none, .bin .gtr (.t 64) (.t 66)⟩])
               (.cond (.t 67)
                .skip
                (.exit 0)))
              (.block 1
               (.seq
                (.reg [⟨some 68, none, .faddr 2 (.t 10)⟩,
                 ⟨some 69, none, .load 1 false (.t 68)⟩,
                 ⟨some 70, none, .mov (.t 7)⟩,
                 ⟨some 71, none, .mov (.t 11)⟩,
                 ⟨some 72, none, .iaddr (.slice 1) (.t 70) (.t 71)⟩,
                 ⟨some 73, none, .load 1 false (.t 72)⟩,
                 ⟨some 74, none, .len (.t 73)⟩,
                 ⟨some 75, none, .call false 32 [(.c .nilS), (.t 74)]⟩,
                 ⟨some 76, none, .len (.t 75)⟩,
                 ⟨some 77, none, .mov (.t 7)⟩,
                 ⟨some 78, none, .mov (.t 11)⟩,
                 ⟨some 79, none, .iaddr (.slice 1) (.t 77) (.t 78)⟩,
                 ⟨some 80, none, .load 1 false (.t 79)⟩,
                 ⟨some 81, none, .len (.t 80)⟩,
                 ⟨some 82, none, .bin .add (.t 76) (.t 81)⟩,
                 ⟨some 83, none, .bin .add (.t 69) (.t 82)⟩,
                 ⟨some 84, none, .faddr 2 (.t 10)⟩,
                 ⟨none, none, .store 1 (.t 84) (.t 83)⟩])
                (.seq
                 (.reg [⟨some 85, none, .faddr 4 (.t 10)⟩,
                  ⟨some 86, none, .load 1 false (.t 85)⟩,
                  ⟨some 87, none, .bin .add (.t 86) (.c (.int .i64 1))⟩,
                  ⟨some 88, none, .faddr 4 (.t 10)⟩,
                  ⟨none, none, .store 1 (.t 88) (.t 87)⟩])
                 (.reg [⟨some 89, none, .mov (.t 11)⟩,
                  ⟨some 90, none, .bin .add (.t 89) (.c (.int .i64 1))⟩,
                  ⟨some 11, none, .mov (.t 90)⟩])))))
def c23r0 : AC := (.seq
            (.reg [⟨some 91, none, .faddr 1 (.t 2)⟩,
             ⟨some 92, none, .load 1 false (.t 91)⟩,
             ⟨some 93, none, .call true 33 [(.t 92)]⟩,
             ⟨some 94, none, .faddr 1 (.t 10)⟩,
             ⟨none, none, .store 1 (.t 94) (.t 93)⟩])
            (.seq
             (.reg [⟨some 95, none, .faddr 1 (.t 10)⟩,
              ⟨some 96, none, .load 1 false (.t 95)⟩,
              ⟨some 97, none, .faddr 3 (.t 2)⟩,
              ⟨some 98, none, .load 1 false (.t 97)⟩,
              ⟨some 99, none, .faddr 1 (.t 2)⟩,
              ⟨some 100, none, .load 1 false (.t 99)⟩,
              ⟨some 101, none, .len (.t 100)⟩,
              ⟨some 102, none, .bin .rem (.t 98) (.t 101)⟩,
              ⟨some 103, none, .slc (.slice 1) (.t 96) (some (.t 102)) none none⟩,
              ⟨some 104, none, .mov (.t 9)⟩,
              ⟨some 105, none, .copy 1 (.t 103) (.t 104)⟩,
              ⟨some 12, none, .mov (.t 105)⟩])
             (.seq
              (.reg [⟨some 106, none, .faddr 1 (.t 10)⟩,
               ⟨some 107, none, .load 1 false (.t 106)⟩,
               ⟨some 108, none, .mov (.t 9)⟩,
               ⟨some 109, none, .mov (.t 12)⟩,
               ⟨some 110, none, .slc (.slice 1) (.t 108) (some (.t 109)) none none⟩,
               ⟨some 111, none, .copy 1 (.t 107) (.t 110)⟩])
              (.seq
               (.reg [⟨some 112, none, .faddr 3 (.t 10)⟩,
                ⟨some 113, none, .load 1 false (.t 112)⟩,
                ⟨some 114, none, .mov (.t 9)⟩,
                ⟨some 115, none, .len (.t 114)⟩,
                ⟨some 116, none, .bin .add (.t 113) (.t 115)⟩,
                ⟨some 117, none, .faddr 3 (.t 10)⟩,
                ⟨none, none, .store 1 (.t 117) (.t 116)⟩])
               (.seq
                (.reg [⟨some 118, none, .faddr 5 (.t 10)⟩,
                 ⟨some 119, none, .load 1 false (.t 118)⟩,
                 ⟨some 120, none, .bin .add (.t 119) (.c (.int .i64 1))⟩,
                 ⟨some 121, none, .faddr 5 (.t 10)⟩,
                 ⟨none, none, .store 1 (.t 121) (.t 120)⟩])
                (.seq
                 (.reg [⟨some 122, none, .load 6 true (.t 10)⟩,
                  ⟨some 123, none, .mov (.t 11)⟩,
                  ⟨none, none, .store 6 (.t 4) (.t 122)⟩,
                  ⟨some 5, none, .mov (.t 123)⟩,
                  ⟨some 6, none, .mov (.c (.int .i64 0))⟩])
                 .ret))))))
/-- tracebook/ring.Put -/
def c23 : AFn := ⟨2, 124, [.c 4 6 true, .t 5, .t 6],
 (.seq
  (.reg [⟨some 2, none, .box (.t 0)⟩,
   ⟨some 4, none, .alloc [(.int .i64 0), .nilS, (.int .i64 0), (.int .i64 0), (.int .i64 0), (.int .i64 0)]⟩,
   ⟨some 5, none, .mov (.c (.int .i64 0))⟩,
   ⟨some 6, none, .mov (.c (.int .i64 0))⟩])
  (.seq
   (.reg [⟨some 14, none, .load 6 true (.t 2)⟩,
    ⟨some 15, none, .call false 27 [(.t 14)]⟩,
    ⟨some 13, none, .mov (.t 15)⟩,
    ⟨some 16, none, .ext (.t 13) 0⟩,
    ⟨some 17, none, .ext (.t 13) 1⟩,
    ⟨some 7, none, .mov (.t 16)⟩,
    ⟨some 8, none, .mov (.t 17)⟩])
   (.seq
    (.seq
     (.reg [⟨some 18, none, .mov (.t 8)⟩,
      ⟨some 19, none, .bin .neq (.t 18) (.c (.int .i64 0))⟩])
     (.cond (.t 19)
      (.seq
       (.reg [⟨some 20, none, .load 6 true (.t 2)⟩,
        ⟨some 21, none, .mov (.t 8)⟩,
        ⟨none, none, .store 6 (.t 4) (.t 20)⟩,
        ⟨some 5, none, .mov (.c (.int .i64 0))⟩,
        ⟨some 6, none, .mov (.t 21)⟩])
       .ret)
      .skip))
    (.seq
     (.seq
      (.reg [⟨some 22, none, .mov (.t 1)⟩,
       ⟨some 23, none, .len (.t 22)⟩,
       ⟨some 24, none, .bin .gtr (.t 23) (.c (.int .i64 2000))⟩])
      (.cond (.t 24)
       (.seq
        (.reg [⟨some 25, none, .load 6 true (.t 2)⟩,
         ⟨none, none, .store 6 (.t 4) (.t 25)⟩,
         ⟨some 5, none, .mov (.c (.int .i64 0))⟩,
         ⟨some 6, none, .mov (.c (.int .i64 7))⟩])
        .ret)
       .skip))
     (.seq
      (.reg [⟨some 26, none, .mov (.t 1)⟩,
       ⟨some 27, none, .len (.t 26)⟩,
       ⟨some 28, none, .call false 32 [(.c .nilS), (.t 27)]⟩,
       ⟨some 29, none, .mov (.t 1)⟩,
       ⟨some 30, none, .bslice false 1 [.nilS] 2 [(0, (.t 28)), (1, (.t 29))]⟩,
       ⟨some 31, none, .call false 31 [(.t 30)]⟩,
       ⟨some 9, none, .mov (.t 31)⟩])
      (.seq
       (.seq
        (.reg [⟨some 32, none, .mov (.t 9)⟩,
         ⟨some 33, none, .len (.t 32)⟩,
         ⟨some 34, none, .faddr 1 (.t 2)⟩,
         ⟨some 35, none, .load 1 false (.t 34)⟩,
         ⟨some 36, none, .len (.t 35)⟩,
         ⟨some 37, none, .bin .gtr (.t 33) (.t 36)⟩])
        (.cond (.t 37)
         (.seq
          (.reg [⟨some 38, none, .load 6 true (.t 2)⟩,
           ⟨none, none, .store 6 (.t 4) (.t 38)⟩,
           ⟨some 5, none, .mov (.c (.int .i64 0))⟩,
           ⟨some 6, none, .mov (.c (.int .i64 7))⟩])
          .ret)
         .skip))
       (.seq
        (.seq
         (.reg [⟨some 39, none, .faddr 0 (.t 2)⟩,
          ⟨some 40, none, .load 1 false (.t 39)⟩,
          ⟨some 41, none, .bin .eql (.t 40) (.c (.int .i64 2))⟩,
          ⟨some 42, none, .mov (.t 41)⟩,
          ⟨some 43, some (42, true), .mov (.t 9)⟩,
          ⟨some 44, some (42, true), .len (.t 43)⟩,
          ⟨some 45, some (42, true), .load 6 true (.t 2)⟩,
          ⟨some 46, some (42, true), .call false 28 [(.t 45)]⟩,
          ⟨some 47, some (42, true), .bin .gtr (.t 44) (.t 46)⟩,
          ⟨some 48, none, .pick (.t 42) (.t 47) (.c (.bool false))⟩])
         (.cond (.t 48)
          (.seq
           (.reg [⟨some 49, none, .load 6 true (.t 2)⟩,
            ⟨none, none, .store 6 (.t 4) (.t 49)⟩,
            ⟨some 5, none, .mov (.c (.int .i64 0))⟩,
            ⟨some 6, none, .mov (.c (.int .i64 6))⟩])
           .ret)
          .skip))
        (.seq
         (.seq
          (.reg [⟨some 50, none, .faddr 3 (.t 2)⟩,
           ⟨some 51, none, .load 1 false (.t 50)⟩,
           ⟨some 52, none, .mov (.t 9)⟩,
           ⟨some 53, none, .len (.t 52)⟩,
           ⟨some 54, none, .bin .sub (.c (.int .i64 1000000000000000)) (.t 53)⟩,
           ⟨some 55, none, .bin .gtr (.t 51) (.t 54)⟩,
           ⟨some 56, none, .mov (.t 55)⟩,
           ⟨some 57, some (56, false), .faddr 5 (.t 2)⟩,
           ⟨some 58, some (56, false), .load 1 false (.t 57)⟩,
           ⟨some 59, some (56, false), .bin .eql (.t 58) (.c (.int .i64 1000000000000000))⟩,
           ⟨some 60, none, .pick (.t 56) (.c (.bool true)) (.t 59)⟩])
          (.cond (.t 60)
           (.seq
            (.reg [⟨some 61, none, .load 6 true (.t 2)⟩,
             ⟨none, none, .store 6 (.t 4) (.t 61)⟩,
             ⟨some 5, none, .mov (.c (.int .i64 0))⟩,
             ⟨some 6, none, .mov (.c (.int .i64 2))⟩])
            .ret)
           .skip))
         (.seq
          (.reg [⟨some 62, none, .load 6 true (.t 2)⟩,
           ⟨some 10, none, .alloc [(.int .i64 0), .nilS, (.int .i64 0), (.int .i64 0), (.int .i64 0), (.int .i64 0)]⟩,
           ⟨none, none, .store 6 (.t 10) (.t 62)⟩,
           ⟨some 11, none, .mov (.c (.int .i64 0))⟩])
          (.seq
           (.block 0
            (.loop [2, 4, 7, 9, 10, 11]
             c23b0))
           c23r0)))))))))), none⟩
def k23 : List (List Nat) := [[2, 4, 7, 9, 10, 11]]
def o23 : List Nat := [3000000, 93]
def c24b0 : AC := (.seq
               (.seq
                (.reg [⟨some 73, none, .mov (.t 12)⟩,
                 ⟨some 74, none, .mov (.t 8)⟩,
                 ⟨some 75, none, .len (.t 74)⟩,
                 ⟨some 76, none, .bin .lss (.t 73) (.t 75)⟩])
                (.cond (.t 76)
                 .skip
                 (.exit 0)))
               (.block 1
                (.seq
                 (.reg [⟨some 77, none, .mov (.t 9)⟩,
                  ⟨some 78, none, .mov (.t 11)⟩,
                  ⟨some 79, none, .iaddr (.slice 1) (.t 77) (.t 78)⟩,
                  ⟨some 80, none, .load 1 false (.t 79)⟩,
                  ⟨some 81, none, .call false 34 [(.t 80)]⟩,
                  ⟨some 82, none, .len (.t 81)⟩,
                  ⟨some 13, none, .mov (.t 82)⟩])
                 (.seq
                  (.reg [⟨some 83, none, .mov (.t 12)⟩,
                   ⟨some 84, none, .mov (.t 13)⟩,
                   ⟨some 85, none, .bin .add (.t 83) (.t 84)⟩,
                   ⟨some 12, none, .mov (.t 85)⟩])
                  (.seq
                   (.reg [⟨some 86, none, .faddr 2 (.t 2)⟩,
                    ⟨some 87, none, .load 1 false (.t 86)⟩,
                    ⟨some 88, none, .mov (.t 13)⟩,
                    ⟨some 89, none, .bin .add (.t 87) (.t 88)⟩,
                    ⟨some 90, none, .faddr 2 (.t 2)⟩,
                    ⟨none, none, .store 1 (.t 90) (.t 89)⟩])
                   (.reg [⟨some 91, none, .mov (.t 11)⟩,
                    ⟨some 92, none, .bin .add (.t 91) (.c (.int .i64 1))⟩,
                    ⟨some 11, none, .mov (.t 92)⟩]))))))
def c24r0 : AC := (.seq
             (.reg [⟨some 93, none, .faddr 4 (.t 2)⟩,
              ⟨some 94, none, .load 1 false (.t 93)⟩,
              ⟨some 95, none, .mov (.t 11)⟩,
              ⟨some 96, none, .bin .add (.t 94) (.t 95)⟩,
              ⟨some 97, none, .faddr 4 (.t 2)⟩,
              ⟨none, none, .store 1 (.t 97) (.t 96)⟩])
             (.seq
              (.reg [⟨some 98, none, .faddr 1 (.t 2)⟩,
               ⟨some 99, none, .load 1 false (.t 98)⟩,
               ⟨some 100, none, .faddr 3 (.t 2)⟩,
               ⟨some 101, none, .load 1 false (.t 100)⟩,
               ⟨some 102, none, .mov (.t 8)⟩,
               ⟨some 103, none, .call false 35 [(.t 99), (.t 101), (.t 102)]⟩,
               ⟨some 104, none, .faddr 1 (.t 2)⟩,
               ⟨none, none, .store 1 (.t 104) (.t 103)⟩])
              (.seq
               (.reg [⟨some 105, none, .faddr 3 (.t 2)⟩,
                ⟨some 106, none, .load 1 false (.t 105)⟩,
                ⟨some 107, none, .mov (.t 8)⟩,
                ⟨some 108, none, .len (.t 107)⟩,
                ⟨some 109, none, .bin .add (.t 106) (.t 108)⟩,
                ⟨some 110, none, .faddr 3 (.t 2)⟩,
                ⟨none, none, .store 1 (.t 110) (.t 109)⟩])
               (.seq
                (.reg [⟨some 111, none, .faddr 5 (.t 2)⟩,
                 ⟨some 112, none, .load 1 false (.t 111)⟩,
                 ⟨some 113, none, .bin .add (.t 112) (.c (.int .i64 1))⟩,
                 ⟨some 114, none, .faddr 5 (.t 2)⟩,
                 ⟨none, none, .store 1 (.t 114) (.t 113)⟩])
                (.seq
                 (.reg [⟨some 115, none, .load 6 true (.t 2)⟩,
                  ⟨some 116, none, .mov (.t 11)⟩,
                  ⟨none, none, .store 6 (.t 4) (.t 115)⟩,
                  ⟨some 5, none, .mov (.t 116)⟩,
                  ⟨some 6, none, .mov (.c (.int .i64 0))⟩])
                 .ret)))))
/-- tracebook/tracebookref09.Put -/
def c24 : AFn := ⟨2, 117, [.c 4 6 true, .t 5, .t 6],
 (.seq
  (.reg [⟨some 2, none, .box (.t 0)⟩,
   ⟨some 4, none, .alloc [(.int .i64 0), .nilS, (.int .i64 0), (.int .i64 0), (.int .i64 0), (.int .i64 0)]⟩,
   ⟨some 5, none, .mov (.c (.int .i64 0))⟩,
   ⟨some 6, none, .mov (.c (.int .i64 0))⟩])
  (.seq
   (.reg [⟨some 14, none, .load 6 true (.t 2)⟩,
    ⟨some 15, none, .call false 18 [(.t 14)]⟩,
    ⟨some 7, none, .mov (.t 15)⟩])
   (.seq
    (.seq
     (.reg [⟨some 16, none, .mov (.t 7)⟩,
      ⟨some 17, none, .bin .neq (.t 16) (.c (.int .i64 0))⟩])
     (.cond (.t 17)
      (.seq
       (.reg [⟨some 18, none, .load 6 true (.t 2)⟩,
        ⟨some 19, none, .mov (.t 7)⟩,
        ⟨none, none, .store 6 (.t 4) (.t 18)⟩,
        ⟨some 5, none, .mov (.c (.int .i64 0))⟩,
        ⟨some 6, none, .mov (.t 19)⟩])
       .ret)
      .skip))
    (.seq
     (.reg [⟨some 20, none, .mov (.t 1)⟩,
      ⟨some 21, none, .call false 34 [(.t 20)]⟩,
      ⟨some 8, none, .mov (.t 21)⟩])
     (.seq
      (.seq
       (.reg [⟨some 22, none, .mov (.t 1)⟩,
        ⟨some 23, none, .len (.t 22)⟩,
        ⟨some 24, none, .bin .gtr (.t 23) (.c (.int .i64 2000))⟩,
        ⟨some 25, none, .mov (.t 24)⟩,
        ⟨some 26, some (25, false), .mov (.t 8)⟩,
        ⟨some 27, some (25, false), .len (.t 26)⟩,
        ⟨some 28, some (25, false), .faddr 1 (.t 2)⟩,
        ⟨some 29, some (25, false), .load 1 false (.t 28)⟩,
        ⟨some 30, some (25, false), .len (.t 29)⟩,
        ⟨some 31, some (25, false), .bin .gtr (.t 27) (.t 30)⟩,
        ⟨some 32, none, .pick (.t 25) (.c (.bool true)) (.t 31)⟩])
       (.cond (.t 32)
        (.seq
         (.reg [⟨some 33, none, .load 6 true (.t 2)⟩,
          ⟨none, none, .store 6 (.t 4) (.t 33)⟩,
          ⟨some 5, none, .mov (.c (.int .i64 0))⟩,
          ⟨some 6, none, .mov (.c (.int .i64 7))⟩])
         .ret)
        .skip))
      (.seq
       (.seq
        (.reg [⟨some 34, none, .faddr 0 (.t 2)⟩,
         ⟨some 35, none, .load 1 false (.t 34)⟩,
         ⟨some 36, none, .bin .eql (.t 35) (.c (.int .i64 2))⟩,
         ⟨some 37, none, .mov (.t 36)⟩,
         ⟨some 38, some (37, true), .mov (.t 8)⟩,
         ⟨some 39, some (37, true), .len (.t 38)⟩,
         ⟨some 40, some (37, true), .load 6 true (.t 2)⟩,
         ⟨some 41, some (37, true), .call false 20 [(.t 40)]⟩,
         ⟨some 42, some (37, true), .bin .gtr (.t 39) (.t 41)⟩,
         ⟨some 43, none, .pick (.t 37) (.t 42) (.c (.bool false))⟩])
        (.cond (.t 43)
         (.seq
          (.reg [⟨some 44, none, .load 6 true (.t 2)⟩,
           ⟨none, none, .store 6 (.t 4) (.t 44)⟩,
           ⟨some 5, none, .mov (.c (.int .i64 0))⟩,
           ⟨some 6, none, .mov (.c (.int .i64 6))⟩])
          .ret)
         .skip))
       (.seq
        (.seq
         (.reg [⟨some 45, none, .faddr 3 (.t 2)⟩,
          ⟨some 46, none, .load 1 false (.t 45)⟩,
          ⟨some 47, none, .mov (.t 8)⟩,
          ⟨some 48, none, .len (.t 47)⟩,
          ⟨some 49, none, .bin .add (.t 46) (.t 48)⟩,
          ⟨some 50, none, .bin .gtr (.t 49) (.c (.int .i64 1000000000000000))⟩,
          ⟨some 51, none, .mov (.t 50)⟩,
          ⟨some 52, some (51, false), .faddr 5 (.t 2)⟩,
          ⟨some 53, some (51, false), .load 1 false (.t 52)⟩,
          ⟨some 54, some (51, false), .bin .add (.t 53) (.c (.int .i64 1))⟩,
          ⟨some 55, some (51, false), .bin .gtr (.t 54) (.c (.int .i64 1000000000000000))⟩,
          ⟨some 56, none, .pick (.t 51) (.c (.bool true)) (.t 55)⟩])
         (.cond (.t 56)
          (.seq
           (.reg [⟨some 57, none, .load 6 true (.t 2)⟩,
            ⟨none, none, .store 6 (.t 4) (.t 57)⟩,
            ⟨some 5, none, .mov (.c (.int .i64 0))⟩,
            ⟨some 6, none, .mov (.c (.int .i64 2))⟩])
           .ret)
          .skip))
        (.seq
         (.reg [⟨some 59, none, .load 6 true (.t 2)⟩,
          ⟨some 60, none, .call false 30 [(.t 59)]⟩,
          ⟨some 61, none, .call false 29 [(.t 60)]⟩,
          ⟨some 58, none, .mov (.t 61)⟩,
          ⟨some 62, none, .ext (.t 58) 0⟩,
          ⟨some 63, none, .ext (.t 58) 1⟩,
          ⟨some 9, none, .mov (.t 62)⟩,
          ⟨some 10, none, .mov (.t 63)⟩])
         (.seq
          (.reg [⟨some 11, none, .mov (.c (.int .i64 0))⟩])
          (.seq
           (.reg [⟨some 64, none, .faddr 1 (.t 2)⟩,
            ⟨some 65, none, .load 1 false (.t 64)⟩,
            ⟨some 66, none, .len (.t 65)⟩,
            ⟨some 67, none, .faddr 3 (.t 2)⟩,
            ⟨some 68, none, .load 1 false (.t 67)⟩,
            ⟨some 69, none, .faddr 2 (.t 2)⟩,
            ⟨some 70, none, .load 1 false (.t 69)⟩,
            ⟨some 71, none, .bin .sub (.t 68) (.t 70)⟩,
            ⟨some 72, none, .bin .sub (.t 66) (.t 71)⟩,
            ⟨some 12, none, .mov (.t 72)⟩])
           (.seq
            (.block 0
             (.loop [2, 4, 8, 9, 11, 12]
              c24b0))
            c24r0))))))))))), none⟩
def k24 : List (List Nat) := [[2, 4, 8, 9, 11, 12]]
def o24 : List Nat := [3000000]
/-- tracebook/tracebooklaw09.size -/
def c25 : AFn := ⟨1, 10, [.t 2],
 (.seq
  (.reg [⟨some 2, none, .mov (.c (.int .i64 0))⟩])
  (.seq
   (.reg [⟨some 3, none, .mov (.t 0)⟩,
    ⟨some 4, none, .len (.t 3)⟩,
    ⟨some 5, none, .call false 32 [(.c .nilS), (.t 4)]⟩,
    ⟨some 6, none, .len (.t 5)⟩,
    ⟨some 7, none, .mov (.t 0)⟩,
    ⟨some 8, none, .len (.t 7)⟩,
    ⟨some 9, none, .bin .add (.t 6) (.t 8)⟩,
    ⟨some 2, none, .mov (.t 9)⟩])
   .ret)), none⟩
def k25 : List (List Nat) := []
def o25 : List Nat := [3000000]
/-- tracebook/ring.isPolicy -/
def c26 : AFn := ⟨1, 9, [.t 2],
 (.seq
  (.reg [⟨some 2, none, .mov (.c (.bool false))⟩])
  (.seq
   (.reg [⟨some 3, none, .mov (.t 0)⟩,
    ⟨some 4, none, .bin .eql (.t 3) (.c (.int .i64 1))⟩,
    ⟨some 5, none, .mov (.t 4)⟩,
    ⟨some 6, some (5, false), .mov (.t 0)⟩,
    ⟨some 7, some (5, false), .bin .eql (.t 6) (.c (.int .i64 2))⟩,
    ⟨some 8, none, .pick (.t 5) (.c (.bool true)) (.t 7)⟩,
    ⟨some 2, none, .mov (.t 8)⟩])
   .ret)), none⟩
def k26 : List (List Nat) := []
def o26 : List Nat := [3000000]
def c27b0 : AC := (.seq
         (.seq
          (.reg [⟨some 56, none, .mov (.t 5)⟩,
           ⟨some 57, none, .len (.t 56)⟩,
           ⟨some 58, none, .bin .gtr (.t 57) (.c (.int .i64 0))⟩])
          (.cond (.t 58)
           .skip
           (.exit 1)))
         (.block 2
          (.seq
           (.reg [⟨some 60, none, .mov (.t 5)⟩,
            ⟨some 61, none, .call false 37 [(.t 60)]⟩,
            ⟨some 59, none, .mov (.t 61)⟩,
            ⟨some 62, none, .ext (.t 59) 0⟩,
            ⟨some 63, none, .ext (.t 59) 1⟩,
            ⟨some 64, none, .ext (.t 59) 2⟩,
            ⟨some 6, none, .mov (.t 62)⟩,
            ⟨some 7, none, .mov (.t 63)⟩,
            ⟨some 8, none, .mov (.t 64)⟩])
           (.seq
            (.seq
             (.reg [⟨some 65, none, .mov (.t 8)⟩,
              ⟨some 66, none, .un .not (.t 65)⟩])
             (.cond (.t 66)
              (.seq
               (.reg [⟨some 2, none, .nilv 1⟩,
                ⟨some 3, none, .mov (.c (.int .i64 10))⟩])
               .ret)
              .skip))
            (.seq
             (.reg [⟨some 67, none, .mov (.t 4)⟩,
              ⟨some 68, none, .mov (.t 6)⟩,
              ⟨some 69, none, .bslice false 1 [.nilS] 1 [(0, (.t 68))]⟩,
              ⟨some 70, none, .append 1 24 (.t 67) (.t 69)⟩,
              ⟨some 4, none, .mov (.t 70)⟩])
             (.reg [⟨some 71, none, .mov (.t 5)⟩,
              ⟨some 72, none, .mov (.t 7)⟩,
              ⟨some 73, none, .slc (.slice 1) (.t 71) (some (.t 72)) none none⟩,
              ⟨some 5, none, .mov (.t 73)⟩]))))))
/-- tracebook/ring.records -/
def c27 : AFn := ⟨1, 83, [.t 2, .t 3],
 (.seq
  (.reg [⟨some 1, none, .box (.t 0)⟩,
   ⟨some 2, none, .nilv 1⟩,
   ⟨some 3, none, .mov (.c (.int .i64 0))⟩])
  (.seq
   (.block 0
    (.seq
     (.reg [⟨some 10, none, .faddr 0 (.t 1)⟩,
      ⟨some 11, none, .load 1 false (.t 10)⟩,
      ⟨some 12, none, .call false 26 [(.t 11)]⟩,
      ⟨some 13, none, .un .not (.t 12)⟩,
      ⟨some 9, none, .mov (.t 13)⟩])
     (.cond (.t 9)
      (.seq
       (.reg [⟨some 2, none, .nilv 1⟩,
        ⟨some 3, none, .mov (.c (.int .i64 1))⟩])
       .ret)
      (.seq
       (.seq
        (.reg [⟨some 15, none, .faddr 1 (.t 1)⟩,
         ⟨some 16, none, .load 1 false (.t 15)⟩,
         ⟨some 17, none, .len (.t 16)⟩,
         ⟨some 18, none, .bin .lss (.t 17) (.c (.int .i64 16))⟩,
         ⟨some 14, none, .mov (.t 18)⟩])
        (.cond (.t 14)
         .skip
         (.seq
          (.reg [⟨some 19, none, .faddr 1 (.t 1)⟩,
           ⟨some 20, none, .load 1 false (.t 19)⟩,
           ⟨some 21, none, .len (.t 20)⟩,
           ⟨some 22, none, .bin .gtr (.t 21) (.c (.int .i64 65536))⟩,
           ⟨some 14, none, .mov (.t 22)⟩])
          (.cond (.t 14)
           .skip
           (.seq
            (.reg [⟨some 23, none, .faddr 2 (.t 1)⟩,
             ⟨some 24, none, .load 1 false (.t 23)⟩,
             ⟨some 25, none, .bin .lss (.t 24) (.c (.int .i64 0))⟩,
             ⟨some 14, none, .mov (.t 25)⟩])
            (.cond (.t 14)
             .skip
             (.seq
              (.reg [⟨some 26, none, .faddr 2 (.t 1)⟩,
               ⟨some 27, none, .load 1 false (.t 26)⟩,
               ⟨some 28, none, .faddr 3 (.t 1)⟩,
               ⟨some 29, none, .load 1 false (.t 28)⟩,
               ⟨some 30, none, .bin .gtr (.t 27) (.t 29)⟩,
               ⟨some 14, none, .mov (.t 30)⟩])
              (.cond (.t 14)
               .skip
               (.seq
                (.reg [⟨some 31, none, .faddr 3 (.t 1)⟩,
                 ⟨some 32, none, .load 1 false (.t 31)⟩,
                 ⟨some 33, none, .bin .gtr (.t 32) (.c (.int .i64 1000000000000000))⟩,
                 ⟨some 14, none, .mov (.t 33)⟩])
                (.cond (.t 14)
                 .skip
                 (.seq
                  (.reg [⟨some 34, none, .faddr 3 (.t 1)⟩,
                   ⟨some 35, none, .load 1 false (.t 34)⟩,
                   ⟨some 36, none, .faddr 2 (.t 1)⟩,
                   ⟨some 37, none, .load 1 false (.t 36)⟩,
                   ⟨some 38, none, .bin .sub (.t 35) (.t 37)⟩,
                   ⟨some 39, none, .faddr 1 (.t 1)⟩,
                   ⟨some 40, none, .load 1 false (.t 39)⟩,
                   ⟨some 41, none, .len (.t 40)⟩,
                   ⟨some 42, none, .bin .gtr (.t 38) (.t 41)⟩,
                   ⟨some 14, none, .mov (.t 42)⟩])
                  (.cond (.t 14)
                   .skip
                   (.seq
                    (.reg [⟨some 43, none, .faddr 4 (.t 1)⟩,
                     ⟨some 44, none, .load 1 false (.t 43)⟩,
                     ⟨some 45, none, .bin .lss (.t 44) (.c (.int .i64 0))⟩,
                     ⟨some 14, none, .mov (.t 45)⟩])
                    (.cond (.t 14)
                     .skip
                     (.seq
                      (.reg [⟨some 46, none, .faddr 4 (.t 1)⟩,
                       ⟨some 47, none, .load 1 false (.t 46)⟩,
                       ⟨some 48, none, .faddr 5 (.t 1)⟩,
                       ⟨some 49, none, .load 1 false (.t 48)⟩,
                       ⟨some 50, none, .bin .gtr (.t 47) (.t 49)⟩,
                       ⟨some 14, none, .mov (.t 50)⟩])
                      (.cond (.t 14)
                       .skip
                       (.reg [⟨some 51, none, .faddr 5 (.t 1)⟩,
                        ⟨some 52, none, .load 1 false (.t 51)⟩,
                        ⟨some 53, none, .bin .gtr (.t 52) (.c (.int .i64 1000000000000000))⟩,
                        ⟨some 14, none, .mov (.t 53)⟩])))))))))))))))))
       (.cond (.t 14)
        (.seq
         (.reg [⟨some 2, none, .nilv 1⟩,
          ⟨some 3, none, .mov (.c (.int .i64 2))⟩])
         .ret)
        .skip)))))
   (.seq
    (.reg [⟨some 4, none, .nilv 1⟩])
    (.seq
     (.seq
      (.reg [⟨some 54, none, .load 6 true (.t 1)⟩,
       ⟨some 55, none, .call false 36 [(.t 54)]⟩,
       ⟨some 5, none, .mov (.t 55)⟩])
      (.block 1
       (.loop [1, 4, 5]
        c27b0)))
     (.seq
      (.seq
       (.reg [⟨some 74, none, .mov (.t 4)⟩,
        ⟨some 75, none, .len (.t 74)⟩,
        ⟨some 76, none, .faddr 5 (.t 1)⟩,
        ⟨some 77, none, .load 1 false (.t 76)⟩,
        ⟨some 78, none, .faddr 4 (.t 1)⟩,
        ⟨some 79, none, .load 1 false (.t 78)⟩,
        ⟨some 80, none, .bin .sub (.t 77) (.t 79)⟩,
        ⟨some 81, none, .bin .neq (.t 75) (.t 80)⟩])
       (.cond (.t 81)
        (.seq
         (.reg [⟨some 2, none, .nilv 1⟩,
          ⟨some 3, none, .mov (.c (.int .i64 10))⟩])
         .ret)
        .skip))
      (.seq
       (.reg [⟨some 82, none, .mov (.t 4)⟩,
        ⟨some 2, none, .mov (.t 82)⟩,
        ⟨some 3, none, .mov (.c (.int .i64 0))⟩])
       .ret)))))), none⟩
def k27 : List (List Nat) := [[1, 4, 5]]
def o27 : List Nat := [3000000]
/-- tracebook/ring.room -/
def c28 : AFn := ⟨1, 12, [.t 2],
 (.seq
  (.reg [⟨some 1, none, .box (.t 0)⟩,
   ⟨some 2, none, .mov (.c (.int .i64 0))⟩])
  (.seq
   (.reg [⟨some 3, none, .faddr 1 (.t 1)⟩,
    ⟨some 4, none, .load 1 false (.t 3)⟩,
    ⟨some 5, none, .len (.t 4)⟩,
    ⟨some 6, none, .faddr 3 (.t 1)⟩,
    ⟨some 7, none, .load 1 false (.t 6)⟩,
    ⟨some 8, none, .faddr 2 (.t 1)⟩,
    ⟨some 9, none, .load 1 false (.t 8)⟩,
    ⟨some 10, none, .bin .sub (.t 7) (.t 9)⟩,
    ⟨some 11, none, .bin .sub (.t 5) (.t 10)⟩,
    ⟨some 2, none, .mov (.t 11)⟩])
   .ret)), none⟩
def k28 : List (List Nat) := []
def o28 : List Nat := [3000000]
def c29b0 : AC := (.seq
       (.seq
        (.reg [⟨some 8, none, .mov (.t 0)⟩,
         ⟨some 9, none, .len (.t 8)⟩,
         ⟨some 10, none, .bin .gtr (.t 9) (.c (.int .i64 0))⟩])
        (.cond (.t 10)
         .skip
         (.exit 0)))
       (.block 1
        (.seq
         (.reg [⟨some 12, none, .mov (.t 0)⟩,
          ⟨some 13, none, .call false 38 [(.t 12)]⟩,
          ⟨some 11, none, .mov (.t 13)⟩,
          ⟨some 14, none, .ext (.t 11) 0⟩,
          ⟨some 15, none, .ext (.t 11) 1⟩,
          ⟨some 16, none, .ext (.t 11) 2⟩,
          ⟨some 5, none, .mov (.t 14)⟩,
          ⟨some 6, none, .mov (.t 15)⟩,
          ⟨some 7, none, .mov (.t 16)⟩])
         (.seq
          (.seq
           (.reg [⟨some 17, none, .mov (.t 7)⟩,
            ⟨some 18, none, .bin .neq (.t 17) (.c (.int .i64 0))⟩,
            ⟨some 19, none, .mov (.t 18)⟩,
            ⟨some 20, some (19, false), .mov (.t 5)⟩,
            ⟨some 21, some (19, false), .bin .lss (.t 20) (.c (.int .i64 0))⟩,
            ⟨some 22, none, .pick (.t 19) (.c (.bool true)) (.t 21)⟩,
            ⟨some 23, none, .mov (.t 22)⟩,
            ⟨some 24, some (23, false), .mov (.t 5)⟩,
            ⟨some 25, some (23, false), .bin .gtr (.t 24) (.c (.int .i64 2000))⟩,
            ⟨some 26, none, .pick (.t 23) (.c (.bool true)) (.t 25)⟩,
            ⟨some 27, none, .mov (.t 26)⟩,
            ⟨some 28, some (27, false), .mov (.t 5)⟩,
            ⟨some 29, some (27, false), .mov (.t 0)⟩,
            ⟨some 30, some (27, false), .len (.t 29)⟩,
            ⟨some 31, some (27, false), .mov (.t 6)⟩,
            ⟨some 32, some (27, false), .bin .sub (.t 30) (.t 31)⟩,
            ⟨some 33, some (27, false), .bin .gtr (.t 28) (.t 32)⟩,
            ⟨some 34, none, .pick (.t 27) (.c (.bool true)) (.t 33)⟩])
           (.cond (.t 34)
            (.seq
             (.reg [⟨some 2, none, .nilv 1⟩,
              ⟨some 3, none, .mov (.c (.bool false))⟩])
             .ret)
            .skip))
          (.seq
           (.reg [⟨some 35, none, .mov (.t 4)⟩,
            ⟨some 36, none, .mov (.t 0)⟩,
            ⟨some 37, none, .mov (.t 6)⟩,
            ⟨some 38, none, .mov (.t 6)⟩,
            ⟨some 39, none, .mov (.t 5)⟩,
            ⟨some 40, none, .bin .add (.t 38) (.t 39)⟩,
            ⟨some 41, none, .slc (.slice 1) (.t 36) (some (.t 37)) (some (.t 40)) none⟩,
            ⟨some 42, none, .bslice false 1 [.nilS] 1 [(0, (.t 41))]⟩,
            ⟨some 43, none, .append 1 24 (.t 35) (.t 42)⟩,
            ⟨some 4, none, .mov (.t 43)⟩])
           (.reg [⟨some 44, none, .mov (.t 0)⟩,
            ⟨some 45, none, .mov (.t 6)⟩,
            ⟨some 46, none, .mov (.t 5)⟩,
            ⟨some 47, none, .bin .add (.t 45) (.t 46)⟩,
            ⟨some 48, none, .slc (.slice 1) (.t 44) (some (.t 47)) none none⟩,
            ⟨some 0, none, .mov (.t 48)⟩]))))))
/-- tracebook/tracebookref09.Records -/
def c29 : AFn := ⟨1, 50, [.t 2, .t 3],
 (.seq
  (.reg [⟨some 2, none, .nilv 1⟩,
   ⟨some 3, none, .mov (.c (.bool false))⟩])
  (.seq
   (.reg [⟨some 4, none, .nilv 1⟩])
   (.seq
    (.block 0
     (.loop [0, 4]
      c29b0))
    (.seq
     (.reg [⟨some 49, none, .mov (.t 4)⟩,
      ⟨some 2, none, .mov (.t 49)⟩,
      ⟨some 3, none, .mov (.c (.bool true))⟩])
     .ret)))), none⟩
def k29 : List (List Nat) := [[0, 4]]
def o29 : List Nat := [3000000]
def c30b0 : AC := (.seq
        (.seq
         (.reg [⟨some 7, none, .mov (.t 4)⟩,
          ⟨some 8, none, .faddr 3 (.t 1)⟩,
          ⟨some 9, none, .load 1 false (.t 8)⟩,
          ⟨some 10, none, .bin .lss (.t 7) (.t 9)⟩])
         (.cond (.t 10)
          .skip
          (.exit 0)))
        (.seq
         (.block 1
          (.reg [⟨some 13, none, .mov (.t 3)⟩,
           ⟨some 14, none, .faddr 1 (.t 1)⟩,
           ⟨some 15, none, .load 1 false (.t 14)⟩,
           ⟨some 16, none, .mov (.t 4)⟩,
           ⟨some 17, none, .faddr 1 (.t 1)⟩,
           ⟨some 18, none, .load 1 false (.t 17)⟩,
           ⟨some 19, none, .len (.t 18)⟩,
           ⟨some 20, none, .bin .rem (.t 16) (.t 19)⟩,
           ⟨some 21, none, .iaddr (.slice 1) (.t 15) (.t 20)⟩,
           ⟨some 22, none, .load 1 false (.t 21)⟩,
           ⟨some 23, none, .bslice false 1 [(.int .u8 0)] 1 [(0, (.t 22))]⟩,
           ⟨some 24, none, .append 1 1 (.t 13) (.t 23)⟩,
           ⟨some 3, none, .mov (.t 24)⟩]))
         (.reg [⟨some 11, none, .mov (.t 4)⟩,
          ⟨some 12, none, .bin .add (.t 11) (.c (.int .i64 1))⟩,
          ⟨some 4, none, .mov (.t 12)⟩])))
/-- tracebook/tracebookref09.Contents -/
def c30 : AFn := ⟨1, 26, [.t 2],
 (.seq
  (.reg [⟨some 1, none, .box (.t 0)⟩,
   ⟨some 2, none, .nilv 1⟩])
  (.seq
   (.reg [⟨some 3, none, .nilv 1⟩])
   (.seq
    (.seq
     (.reg [⟨some 5, none, .faddr 2 (.t 1)⟩,
      ⟨some 6, none, .load 1 false (.t 5)⟩,
      ⟨some 4, none, .mov (.t 6)⟩])
     (.block 0
      (.loop [1, 3, 4]
       c30b0)))
    (.seq
     (.reg [⟨some 25, none, .mov (.t 3)⟩,
      ⟨some 2, none, .mov (.t 25)⟩])
     .ret)))), none⟩
def k30 : List (List Nat) := [[1, 3, 4]]
def o30 : List Nat := [3000000]
def c31b0 : AC := (.seq
          (.reg [⟨some 28, none, .bin .lss (.t 27) (.t 26)⟩])
          (.seq
           (.cond (.t 28)
            .skip
            (.exit 2))
           (.seq
            (.block 3
             (.seq
              (.reg [⟨some 29, none, .iaddr (.slice 1) (.t 25) (.t 27)⟩,
               ⟨some 30, none, .load 1 false (.t 29)⟩,
               ⟨some 8, none, .mov (.t 30)⟩])
              (.reg [⟨some 31, none, .mov (.t 6)⟩,
               ⟨some 32, none, .mov (.t 8)⟩,
               ⟨some 33, none, .append 1 1 (.t 31) (.t 32)⟩,
               ⟨some 6, none, .mov (.t 33)⟩])))
            (.reg [⟨some 34, none, .bin .add (.t 27) (.c (.int .i64 1))⟩,
             ⟨some 27, none, .mov (.t 34)⟩]))))
def c31b1 : AC := (.seq
        (.reg [⟨some 12, none, .bin .lss (.t 11) (.t 10)⟩])
        (.seq
         (.cond (.t 12)
          .skip
          (.exit 0))
         (.seq
          (.block 1
           (.seq
            (.reg [⟨some 13, none, .iaddr (.slice 1) (.t 9) (.t 11)⟩,
             ⟨some 14, none, .load 1 false (.t 13)⟩,
             ⟨some 5, none, .mov (.t 14)⟩])
            (.seq
             (.reg [⟨some 15, none, .mov (.t 3)⟩,
              ⟨some 16, none, .mov (.t 5)⟩,
              ⟨some 17, none, .len (.t 16)⟩,
              ⟨some 18, none, .bin .add (.t 15) (.t 17)⟩,
              ⟨some 3, none, .mov (.t 18)⟩])
             (.seq
              (.reg [⟨some 19, none, .mov (.t 3)⟩,
               ⟨some 20, none, .bin .lss (.t 19) (.c (.int .i64 0))⟩])
              (.cond (.t 20)
               .stuck
               .skip)))))
          (.reg [⟨some 22, none, .bin .add (.t 11) (.c (.int .i64 1))⟩,
           ⟨some 11, none, .mov (.t 22)⟩]))))
def c31r0 : AC := (.seq
     (.reg [⟨some 23, none, .mov (.t 3)⟩,
      ⟨some 24, none, .call true 39 [(.c .nilS), (.t 23)]⟩,
      ⟨some 6, none, .mov (.t 24)⟩])
     (.seq
      (.seq
       (.reg [⟨some 25, none, .mov (.t 0)⟩,
        ⟨some 26, none, .len (.t 25)⟩,
        ⟨some 27, none, .mov (.c (.int .i64 0))⟩])
       (.block 2
        (.loop [6, 25, 26, 27]
         c31b0)))
      (.seq
       (.reg [⟨some 35, none, .mov (.t 6)⟩,
        ⟨some 2, none, .mov (.t 35)⟩])
       .ret)))
/-- slices.Concat[[]byte,byte] -/
def c31 : AFn := ⟨1, 36, [.t 2],
 (.seq
  (.reg [⟨some 2, none, .nilv 1⟩])
  (.seq
   (.reg [⟨some 3, none, .mov (.c (.int .i64 0))⟩])
   (.seq
    (.seq
     (.reg [⟨some 9, none, .mov (.t 0)⟩,
      ⟨some 10, none, .len (.t 9)⟩,
      ⟨some 11, none, .mov (.c (.int .i64 0))⟩])
     (.block 0
      (.loop [0, 3, 9, 10, 11]
       c31b1)))
    c31r0))), none⟩
def k31 : List (List Nat) := [[0, 3, 9, 10, 11], [6, 25, 26, 27]]
def o31 : List Nat := [3000000, 24]
def c32b0 : AC := (.seq
         (.seq
          (.reg [⟨some 15, none, .mov (.t 5)⟩,
           ⟨some 16, none, .bin .geq (.t 15) (.c (.int .u64 128))⟩])
          (.cond (.t 16)
           .skip
           (.exit 0)))
         (.block 1
          (.seq
           (.reg [⟨some 17, none, .mov (.t 7)⟩,
            ⟨some 18, none, .mov (.t 5)⟩,
            ⟨some 19, none, .conv (.int .u8) (.t 18)⟩,
            ⟨some 20, none, .bin .or (.t 19) (.c (.int .u8 128))⟩,
            ⟨some 21, none, .iaddr (.array 10 1) (.t 6) (.t 17)⟩,
            ⟨none, none, .store 1 (.t 21) (.t 20)⟩])
           (.seq
            (.reg [⟨some 22, none, .mov (.t 5)⟩,
             ⟨some 23, none, .bin .shr (.t 22) (.c (.int .u64 7))⟩,
             ⟨some 5, none, .mov (.t 23)⟩])
            (.reg [⟨some 24, none, .mov (.t 7)⟩,
             ⟨some 25, none, .bin .add (.t 24) (.c (.int .i64 1))⟩,
             ⟨some 7, none, .mov (.t 25)⟩])))))
/-- tracebook/codec.PutInt -/
def c32 : AFn := ⟨2, 40, [.t 4],
 (.seq
  (.reg [⟨some 4, none, .nilv 1⟩])
  (.seq
   (.reg [⟨some 8, none, .mov (.t 1)⟩,
    ⟨some 9, none, .conv (.int .u64) (.t 8)⟩,
    ⟨some 10, none, .bin .shl (.t 9) (.c (.int .u64 1))⟩,
    ⟨some 11, none, .mov (.t 1)⟩,
    ⟨some 12, none, .bin .shr (.t 11) (.c (.int .u64 63))⟩,
    ⟨some 13, none, .conv (.int .u64) (.t 12)⟩,
    ⟨some 14, none, .bin .xor (.t 10) (.t 13)⟩,
    ⟨some 5, none, .mov (.t 14)⟩])
   (.seq
    (.reg [⟨some 6, none, .alloca 1 10 [(.int .u8 0), (.int .u8 0), (.int .u8 0), (.int .u8 0), (.int .u8 0), (.int .u8 0), (.int .u8 0), (.int .u8 0), (.int .u8 0), (.int .u8 0)]⟩])
    (.seq
     (.reg [⟨some 7, none, .mov (.c (.int .i64 0))⟩])
     (.seq
      (.block 0
       (.loop [0, 5, 6, 7]
        c32b0))
      (.seq
       (.reg [⟨some 26, none, .mov (.t 7)⟩,
        ⟨some 27, none, .mov (.t 5)⟩,
        ⟨some 28, none, .conv (.int .u8) (.t 27)⟩,
        ⟨some 29, none, .iaddr (.array 10 1) (.t 6) (.t 26)⟩,
        ⟨none, none, .store 1 (.t 29) (.t 28)⟩])
       (.seq
        (.reg [⟨some 30, none, .mov (.t 0)⟩,
         ⟨some 31, none, .mov (.t 0)⟩,
         ⟨some 32, none, .len (.t 31)⟩,
         ⟨some 33, none, .mov (.t 0)⟩,
         ⟨some 34, none, .len (.t 33)⟩,
         ⟨some 35, none, .slc (.slice 1) (.t 30) none (some (.t 32)) (some (.t 34))⟩,
         ⟨some 36, none, .mov (.t 7)⟩,
         ⟨some 37, none, .bin .add (.t 36) (.c (.int .i64 1))⟩,
         ⟨some 38, none, .asl 1 10 (.t 6) (some (.t 37))⟩,
         ⟨some 39, none, .append 1 1 (.t 35) (.t 38)⟩,
         ⟨some 4, none, .mov (.t 39)⟩])
        .ret))))))), none⟩
def k32 : List (List Nat) := [[0, 5, 6, 7]]
def o32 : List Nat := [3000000]
/-- slices.Clone[[]byte,byte] -/
def c33 : AFn := ⟨1, 8, [.t 2],
 (.seq
  (.reg [⟨some 2, none, .nilv 1⟩])
  (.seq
   (.seq
    (.reg [⟨some 3, none, .mov (.t 0)⟩,
     ⟨some 4, none, .nilq true false (.t 3)⟩])
    (.cond (.t 4)
     (.seq
      (.reg [⟨some 2, none, .nilv 1⟩])
      .ret)
     .skip))
   (.seq
    (.reg [⟨some 5, none, .bslice true 1 [(.int .u8 0)] 0 []⟩,
     ⟨some 6, none, .mov (.t 0)⟩,
     ⟨some 7, none, .append 1 1 (.t 5) (.t 6)⟩,
     ⟨some 2, none, .mov (.t 7)⟩])
    .ret))), none⟩
def k33 : List (List Nat) := []
def o33 : List Nat := [3000000, 5]
/-- tracebook/tracebookref09.Frame -/
def c34 : AFn := ⟨1, 8, [.t 2],
 (.seq
  (.reg [⟨some 2, none, .nilv 1⟩])
  (.seq
   (.reg [⟨some 3, none, .mov (.t 0)⟩,
    ⟨some 4, none, .len (.t 3)⟩,
    ⟨some 5, none, .call true 40 [(.c .nilS), (.t 4)]⟩,
    ⟨some 6, none, .mov (.t 0)⟩,
    ⟨some 7, none, .append 1 1 (.t 5) (.t 6)⟩,
    ⟨some 2, none, .mov (.t 7)⟩])
   .ret)), none⟩
def k34 : List (List Nat) := []
def o34 : List Nat := [3000000, 5]
def c35b0 : AC := (.seq
        (.seq
         (.reg [⟨some 12, none, .mov (.t 8)⟩,
          ⟨some 13, none, .mov (.t 2)⟩,
          ⟨some 14, none, .len (.t 13)⟩,
          ⟨some 15, none, .bin .lss (.t 12) (.t 14)⟩])
         (.cond (.t 15)
          .skip
          (.exit 0)))
        (.seq
         (.block 1
          (.reg [⟨some 18, none, .mov (.t 7)⟩,
           ⟨some 19, none, .mov (.t 1)⟩,
           ⟨some 20, none, .mov (.t 8)⟩,
           ⟨some 21, none, .bin .add (.t 19) (.t 20)⟩,
           ⟨some 22, none, .mov (.t 7)⟩,
           ⟨some 23, none, .len (.t 22)⟩,
           ⟨some 24, none, .bin .rem (.t 21) (.t 23)⟩,
           ⟨some 25, none, .mov (.t 2)⟩,
           ⟨some 26, none, .mov (.t 8)⟩,
           ⟨some 27, none, .iaddr (.slice 1) (.t 25) (.t 26)⟩,
           ⟨some 28, none, .load 1 false (.t 27)⟩,
           ⟨some 29, none, .iaddr (.slice 1) (.t 18) (.t 24)⟩,
           ⟨none, none, .store 1 (.t 29) (.t 28)⟩]))
         (.reg [⟨some 16, none, .mov (.t 8)⟩,
          ⟨some 17, none, .bin .add (.t 16) (.c (.int .i64 1))⟩,
          ⟨some 8, none, .mov (.t 17)⟩])))
/-- tracebook/tracebookref09.written -/
def c35 : AFn := ⟨3, 31, [.t 6],
 (.seq
  (.reg [⟨some 6, none, .nilv 1⟩])
  (.seq
   (.reg [⟨some 9, none, .bslice true 1 [(.int .u8 0)] 0 []⟩,
    ⟨some 10, none, .mov (.t 0)⟩,
    ⟨some 11, none, .append 1 1 (.t 9) (.t 10)⟩,
    ⟨some 7, none, .mov (.t 11)⟩])
   (.seq
    (.seq
     (.reg [⟨some 8, none, .mov (.c (.int .i64 0))⟩])
     (.block 0
      (.loop [1, 2, 7, 8]
       c35b0)))
    (.seq
     (.reg [⟨some 30, none, .mov (.t 7)⟩,
      ⟨some 6, none, .mov (.t 30)⟩])
     .ret)))), none⟩
def k35 : List (List Nat) := [[1, 2, 7, 8]]
def o35 : List Nat := [3000000, 9]
/-- tracebook/ring.contents -/
def c36 : AFn := ⟨1, 29, [.t 2],
 (.seq
  (.reg [⟨some 1, none, .box (.t 0)⟩,
   ⟨some 2, none, .nilv 1⟩])
  (.seq
   (.reg [⟨some 5, none, .faddr 3 (.t 1)⟩,
    ⟨some 6, none, .load 1 false (.t 5)⟩,
    ⟨some 7, none, .faddr 2 (.t 1)⟩,
    ⟨some 8, none, .load 1 false (.t 7)⟩,
    ⟨some 9, none, .bin .sub (.t 6) (.t 8)⟩,
    ⟨some 10, none, .make 1 1 [(.int .u8 0)] (.t 9) (.t 9)⟩,
    ⟨some 3, none, .mov (.t 10)⟩])
   (.seq
    (.reg [⟨some 11, none, .mov (.t 3)⟩,
     ⟨some 12, none, .faddr 1 (.t 1)⟩,
     ⟨some 13, none, .load 1 false (.t 12)⟩,
     ⟨some 14, none, .faddr 2 (.t 1)⟩,
     ⟨some 15, none, .load 1 false (.t 14)⟩,
     ⟨some 16, none, .faddr 1 (.t 1)⟩,
     ⟨some 17, none, .load 1 false (.t 16)⟩,
     ⟨some 18, none, .len (.t 17)⟩,
     ⟨some 19, none, .bin .rem (.t 15) (.t 18)⟩,
     ⟨some 20, none, .slc (.slice 1) (.t 13) (some (.t 19)) none none⟩,
     ⟨some 21, none, .copy 1 (.t 11) (.t 20)⟩,
     ⟨some 4, none, .mov (.t 21)⟩])
    (.seq
     (.reg [⟨some 22, none, .mov (.t 3)⟩,
      ⟨some 23, none, .mov (.t 4)⟩,
      ⟨some 24, none, .slc (.slice 1) (.t 22) (some (.t 23)) none none⟩,
      ⟨some 25, none, .faddr 1 (.t 1)⟩,
      ⟨some 26, none, .load 1 false (.t 25)⟩,
      ⟨some 27, none, .copy 1 (.t 24) (.t 26)⟩])
     (.seq
      (.reg [⟨some 28, none, .mov (.t 3)⟩,
       ⟨some 2, none, .mov (.t 28)⟩])
      .ret))))), none⟩
def k36 : List (List Nat) := []
def o36 : List Nat := [3000000, 10]
/-- tracebook/ring.frame -/
def c37 : AFn := ⟨1, 42, [.t 2, .t 3, .t 4],
 (.seq
  (.reg [⟨some 2, none, .nilv 1⟩,
   ⟨some 3, none, .mov (.c (.int .i64 0))⟩,
   ⟨some 4, none, .mov (.c (.bool false))⟩])
  (.seq
   (.reg [⟨some 10, none, .mov (.t 0)⟩,
    ⟨some 11, none, .call false 41 [(.t 10)]⟩,
    ⟨some 9, none, .mov (.t 11)⟩,
    ⟨some 12, none, .ext (.t 9) 0⟩,
    ⟨some 13, none, .ext (.t 9) 1⟩,
    ⟨some 14, none, .ext (.t 9) 2⟩,
    ⟨some 5, none, .mov (.t 12)⟩,
    ⟨some 6, none, .mov (.t 13)⟩,
    ⟨some 7, none, .mov (.t 14)⟩])
   (.seq
    (.seq
     (.reg [⟨some 15, none, .mov (.t 7)⟩,
      ⟨some 16, none, .bin .neq (.t 15) (.c (.int .i64 0))⟩,
      ⟨some 17, none, .mov (.t 16)⟩,
      ⟨some 18, some (17, false), .mov (.t 5)⟩,
      ⟨some 19, some (17, false), .bin .lss (.t 18) (.c (.int .i64 0))⟩,
      ⟨some 20, none, .pick (.t 17) (.c (.bool true)) (.t 19)⟩,
      ⟨some 21, none, .mov (.t 20)⟩,
      ⟨some 22, some (21, false), .mov (.t 5)⟩,
      ⟨some 23, some (21, false), .bin .gtr (.t 22) (.c (.int .i64 2000))⟩,
      ⟨some 24, none, .pick (.t 21) (.c (.bool true)) (.t 23)⟩,
      ⟨some 25, none, .mov (.t 24)⟩,
      ⟨some 26, some (25, false), .mov (.t 5)⟩,
      ⟨some 27, some (25, false), .mov (.t 0)⟩,
      ⟨some 28, some (25, false), .len (.t 27)⟩,
      ⟨some 29, some (25, false), .mov (.t 6)⟩,
      ⟨some 30, some (25, false), .bin .sub (.t 28) (.t 29)⟩,
      ⟨some 31, some (25, false), .bin .gtr (.t 26) (.t 30)⟩,
      ⟨some 32, none, .pick (.t 25) (.c (.bool true)) (.t 31)⟩])
     (.cond (.t 32)
      (.seq
       (.reg [⟨some 2, none, .nilv 1⟩,
        ⟨some 3, none, .mov (.c (.int .i64 0))⟩,
        ⟨some 4, none, .mov (.c (.bool false))⟩])
       .ret)
      .skip))
    (.seq
     (.reg [⟨some 33, none, .mov (.t 6)⟩,
      ⟨some 34, none, .mov (.t 5)⟩,
      ⟨some 35, none, .bin .add (.t 33) (.t 34)⟩,
      ⟨some 8, none, .mov (.t 35)⟩])
     (.seq
      (.reg [⟨some 36, none, .mov (.t 0)⟩,
       ⟨some 37, none, .mov (.t 6)⟩,
       ⟨some 38, none, .mov (.t 8)⟩,
       ⟨some 39, none, .mov (.t 8)⟩,
       ⟨some 40, none, .slc (.slice 1) (.t 36) (some (.t 37)) (some (.t 38)) (some (.t 39))⟩,
       ⟨some 41, none, .mov (.t 8)⟩,
       ⟨some 2, none, .mov (.t 40)⟩,
       ⟨some 3, none, .mov (.t 41)⟩,
       ⟨some 4, none, .mov (.c (.bool true))⟩])
      .ret))))), none⟩
def k37 : List (List Nat) := []
def o37 : List Nat := [3000000]
def c38b0 : AC := (.seq
         (.seq
          (.reg [⟨some 9, none, .mov (.t 7)⟩,
           ⟨some 10, none, .bin .lss (.t 9) (.c (.int .i64 10))⟩])
          (.cond (.t 10)
           .skip
           (.exit 0)))
         (.seq
          (.block 1
           (.seq
            (.seq
             (.reg [⟨some 13, none, .mov (.t 7)⟩,
              ⟨some 14, none, .mov (.t 0)⟩,
              ⟨some 15, none, .len (.t 14)⟩,
              ⟨some 16, none, .bin .geq (.t 13) (.t 15)⟩])
             (.cond (.t 16)
              (.seq
               (.reg [⟨some 2, none, .mov (.c (.int .i64 0))⟩,
                ⟨some 3, none, .mov (.c (.int .i64 0))⟩,
                ⟨some 4, none, .mov (.c (.int .i64 8))⟩])
               .ret)
              .skip))
            (.seq
             (.reg [⟨some 17, none, .mov (.t 0)⟩,
              ⟨some 18, none, .mov (.t 7)⟩,
              ⟨some 19, none, .iaddr (.slice 1) (.t 17) (.t 18)⟩,
              ⟨some 20, none, .load 1 false (.t 19)⟩,
              ⟨some 21, none, .conv (.int .u64) (.t 20)⟩,
              ⟨some 8, none, .mov (.t 21)⟩])
             (.seq
              (.seq
               (.reg [⟨some 22, none, .mov (.t 7)⟩,
                ⟨some 23, none, .bin .eql (.t 22) (.c (.int .i64 9))⟩,
                ⟨some 24, none, .mov (.t 23)⟩,
                ⟨some 25, some (24, true), .mov (.t 8)⟩,
                ⟨some 26, some (24, true), .bin .gtr (.t 25) (.c (.int .u64 1))⟩,
                ⟨some 27, none, .pick (.t 24) (.t 26) (.c (.bool false))⟩])
               (.cond (.t 27)
                (.seq
                 (.reg [⟨some 2, none, .mov (.c (.int .i64 0))⟩,
                  ⟨some 3, none, .mov (.c (.int .i64 0))⟩,
                  ⟨some 4, none, .mov (.c (.int .i64 10))⟩])
                 .ret)
                .skip))
              (.seq
               (.reg [⟨some 28, none, .mov (.t 5)⟩,
                ⟨some 29, none, .mov (.t 8)⟩,
                ⟨some 30, none, .bin .rem (.t 29) (.c (.int .u64 128))⟩,
                ⟨some 31, none, .mov (.t 6)⟩,
                ⟨some 32, none, .bin .mul (.t 30) (.t 31)⟩,
                ⟨some 33, none, .bin .add (.t 28) (.t 32)⟩,
                ⟨some 5, none, .mov (.t 33)⟩])
               (.seq
                (.reg [⟨some 34, none, .mov (.t 6)⟩,
                 ⟨some 35, none, .bin .mul (.t 34) (.c (.int .u64 128))⟩,
                 ⟨some 6, none, .mov (.t 35)⟩])
                (.seq
                 (.seq
                  (.reg [⟨some 36, none, .mov (.t 8)⟩,
                   ⟨some 37, none, .bin .lss (.t 36) (.c (.int .u64 128))⟩,
                   ⟨some 38, none, .mov (.t 37)⟩,
                   ⟨some 39, some (38, true), .mov (.t 8)⟩,
                   ⟨some 40, some (38, true), .bin .eql (.t 39) (.c (.int .u64 0))⟩,
                   ⟨some 41, none, .pick (.t 38) (.t 40) (.c (.bool false))⟩,
                   ⟨some 42, none, .mov (.t 41)⟩,
                   ⟨some 43, some (42, true), .mov (.t 7)⟩,
                   ⟨some 44, some (42, true), .bin .gtr (.t 43) (.c (.int .i64 0))⟩,
                   ⟨some 45, none, .pick (.t 42) (.t 44) (.c (.bool false))⟩])
                  (.cond (.t 45)
                   (.seq
                    (.reg [⟨some 2, none, .mov (.c (.int .i64 0))⟩,
                     ⟨some 3, none, .mov (.c (.int .i64 0))⟩,
                     ⟨some 4, none, .mov (.c (.int .i64 10))⟩])
                    .ret)
                   .skip))
                 (.seq
                  (.reg [⟨some 46, none, .mov (.t 8)⟩,
                   ⟨some 47, none, .bin .lss (.t 46) (.c (.int .u64 128))⟩])
                  (.cond (.t 47)
                   (.seq
                    (.reg [⟨some 48, none, .mov (.t 5)⟩,
                     ⟨some 49, none, .call false 42 [(.t 48)]⟩,
                     ⟨some 50, none, .mov (.t 7)⟩,
                     ⟨some 51, none, .bin .add (.t 50) (.c (.int .i64 1))⟩,
                     ⟨some 2, none, .mov (.t 49)⟩,
                     ⟨some 3, none, .mov (.t 51)⟩,
                     ⟨some 4, none, .mov (.c (.int .i64 0))⟩])
                    .ret)
                   .skip)))))))))
          (.reg [⟨some 11, none, .mov (.t 7)⟩,
           ⟨some 12, none, .bin .add (.t 11) (.c (.int .i64 1))⟩,
           ⟨some 7, none, .mov (.t 12)⟩])))
/-- tracebook/tracebookref05.Int -/
def c38 : AFn := ⟨1, 52, [.t 2, .t 3, .t 4],
 (.seq
  (.reg [⟨some 2, none, .mov (.c (.int .i64 0))⟩,
   ⟨some 3, none, .mov (.c (.int .i64 0))⟩,
   ⟨some 4, none, .mov (.c (.int .i64 0))⟩])
  (.seq
   (.reg [⟨some 5, none, .mov (.c (.int .u64 0))⟩])
   (.seq
    (.reg [⟨some 6, none, .mov (.c (.int .u64 1))⟩])
    (.seq
     (.seq
      (.reg [⟨some 7, none, .mov (.c (.int .i64 0))⟩])
      (.block 0
       (.loop [0, 5, 6, 7]
        c38b0)))
     (.seq
      (.reg [⟨some 2, none, .mov (.c (.int .i64 0))⟩,
       ⟨some 3, none, .mov (.c (.int .i64 0))⟩,
       ⟨some 4, none, .mov (.c (.int .i64 10))⟩])
      .ret))))), none⟩
def k38 : List (List Nat) := [[0, 5, 6, 7]]
def o38 : List Nat := [3000000]
/-- slices.Grow[[]byte,byte] -/
def c39 : AFn := ⟨2, 27, [.t 4],
 (.seq
  (.reg [⟨some 4, none, .nilv 1⟩])
  (.seq
   (.seq
    (.reg [⟨some 5, none, .mov (.t 1)⟩,
     ⟨some 6, none, .bin .lss (.t 5) (.c (.int .i64 0))⟩])
    (.cond (.t 6)
     .stuck
     .skip))
   (.seq
    (.seq
     (.reg [⟨some 8, none, .mov (.t 1)⟩,
      ⟨some 9, none, .mov (.t 0)⟩,
      ⟨some 10, none, .capN (.t 9)⟩,
      ⟨some 11, none, .mov (.t 0)⟩,
      ⟨some 12, none, .len (.t 11)⟩,
      ⟨some 13, none, .bin .sub (.t 10) (.t 12)⟩,
      ⟨some 14, none, .bin .sub (.t 8) (.t 13)⟩,
      ⟨some 1, none, .mov (.t 14)⟩])
     (.seq
      (.reg [⟨some 15, none, .mov (.t 1)⟩,
       ⟨some 16, none, .bin .gtr (.t 15) (.c (.int .i64 0))⟩])
      (.cond (.t 16)
       (.reg [⟨some 17, none, .mov (.t 0)⟩,
        ⟨some 18, none, .mov (.t 0)⟩,
        ⟨some 19, none, .capN (.t 18)⟩,
        ⟨some 20, none, .slc (.slice 1) (.t 17) none (some (.t 19)) none⟩,
        ⟨some 21, none, .mov (.t 1)⟩,
        ⟨some 22, none, .appz 1 1 [(.int .u8 0)] (.t 20) (.t 21)⟩,
        ⟨some 23, none, .mov (.t 0)⟩,
        ⟨some 24, none, .len (.t 23)⟩,
        ⟨some 25, none, .slc (.slice 1) (.t 22) none (some (.t 24)) none⟩,
        ⟨some 0, none, .mov (.t 25)⟩])
       .skip)))
    (.seq
     (.reg [⟨some 26, none, .mov (.t 0)⟩,
      ⟨some 4, none, .mov (.t 26)⟩])
     .ret)))), none⟩
def k39 : List (List Nat) := []
def o39 : List Nat := [3000000]
def c40b0 : AC := (.seq
        (.seq
         (.reg [⟨some 12, none, .mov (.t 6)⟩,
          ⟨some 13, none, .bin .geq (.t 12) (.c (.int .u64 128))⟩])
         (.cond (.t 13)
          .skip
          (.exit 0)))
        (.block 1
         (.seq
          (.reg [⟨some 14, none, .mov (.t 5)⟩,
           ⟨some 15, none, .mov (.t 6)⟩,
           ⟨some 16, none, .bin .rem (.t 15) (.c (.int .u64 128))⟩,
           ⟨some 17, none, .conv (.int .u8) (.t 16)⟩,
           ⟨some 18, none, .bin .add (.t 17) (.c (.int .u8 128))⟩,
           ⟨some 19, none, .bslice false 1 [(.int .u8 0)] 1 [(0, (.t 18))]⟩,
           ⟨some 20, none, .append 1 1 (.t 14) (.t 19)⟩,
           ⟨some 5, none, .mov (.t 20)⟩])
          (.reg [⟨some 21, none, .mov (.t 6)⟩,
           ⟨some 22, none, .bin .quo (.t 21) (.c (.int .u64 128))⟩,
           ⟨some 6, none, .mov (.t 22)⟩]))))
/-- tracebook/tracebookref05.PutInt -/
def c40 : AFn := ⟨2, 29, [.t 4],
 (.seq
  (.reg [⟨some 4, none, .nilv 1⟩])
  (.seq
   (.reg [⟨some 7, none, .bslice true 1 [(.int .u8 0)] 0 []⟩,
    ⟨some 8, none, .mov (.t 0)⟩,
    ⟨some 9, none, .append 1 1 (.t 7) (.t 8)⟩,
    ⟨some 5, none, .mov (.t 9)⟩])
   (.seq
    (.reg [⟨some 10, none, .mov (.t 1)⟩,
     ⟨some 11, none, .call false 43 [(.t 10)]⟩,
     ⟨some 6, none, .mov (.t 11)⟩])
    (.seq
     (.block 0
      (.loop [5, 6]
       c40b0))
     (.seq
      (.reg [⟨some 23, none, .mov (.t 5)⟩,
       ⟨some 24, none, .mov (.t 6)⟩,
       ⟨some 25, none, .conv (.int .u8) (.t 24)⟩,
       ⟨some 26, none, .bslice false 1 [(.int .u8 0)] 1 [(0, (.t 25))]⟩,
       ⟨some 27, none, .append 1 1 (.t 23) (.t 26)⟩,
       ⟨some 5, none, .mov (.t 27)⟩])
      (.seq
       (.reg [⟨some 28, none, .mov (.t 5)⟩,
        ⟨some 4, none, .mov (.t 28)⟩])
       .ret)))))), none⟩
def k40 : List (List Nat) := [[5, 6]]
def o40 : List Nat := [3000000, 7]
def c41b0 : AC := (.seq
        (.reg [⟨some 8, none, .bin .lss (.t 7) (.c (.int .i64 10))⟩])
        (.seq
         (.cond (.t 8)
          .skip
          (.exit 0))
         (.seq
          (.block 1
           (.seq
            (.reg [⟨some 9, none, .mov (.t 7)⟩,
             ⟨some 6, none, .mov (.t 9)⟩])
            (.seq
             (.seq
              (.reg [⟨some 10, none, .mov (.t 6)⟩,
               ⟨some 11, none, .mov (.t 0)⟩,
               ⟨some 12, none, .len (.t 11)⟩,
               ⟨some 13, none, .bin .eql (.t 10) (.t 12)⟩])
              (.cond (.t 13)
               (.seq
                (.reg [⟨some 2, none, .mov (.c (.int .i64 0))⟩,
                 ⟨some 3, none, .mov (.c (.int .i64 0))⟩,
                 ⟨some 4, none, .mov (.c (.int .i64 8))⟩])
                .ret)
               .skip))
             (.seq
              (.seq
               (.reg [⟨some 14, none, .mov (.t 6)⟩,
                ⟨some 15, none, .bin .eql (.t 14) (.c (.int .i64 9))⟩,
                ⟨some 16, none, .mov (.t 15)⟩,
                ⟨some 17, some (16, true), .mov (.t 0)⟩,
                ⟨some 18, some (16, true), .mov (.t 6)⟩,
                ⟨some 19, some (16, true), .iaddr (.slice 1) (.t 17) (.t 18)⟩,
                ⟨some 20, some (16, true), .load 1 false (.t 19)⟩,
                ⟨some 21, some (16, true), .bin .gtr (.t 20) (.c (.int .u8 1))⟩,
                ⟨some 22, none, .pick (.t 16) (.t 21) (.c (.bool false))⟩])
               (.cond (.t 22)
                (.seq
                 (.reg [⟨some 2, none, .mov (.c (.int .i64 0))⟩,
                  ⟨some 3, none, .mov (.c (.int .i64 0))⟩,
                  ⟨some 4, none, .mov (.c (.int .i64 10))⟩])
                 .ret)
                .skip))
              (.seq
               (.reg [⟨some 23, none, .mov (.t 5)⟩,
                ⟨some 24, none, .mov (.t 0)⟩,
                ⟨some 25, none, .mov (.t 6)⟩,
                ⟨some 26, none, .iaddr (.slice 1) (.t 24) (.t 25)⟩,
                ⟨some 27, none, .load 1 false (.t 26)⟩,
                ⟨some 28, none, .bin .and (.t 27) (.c (.int .u8 127))⟩,
                ⟨some 29, none, .conv (.int .u64) (.t 28)⟩,
                ⟨some 30, none, .mov (.t 6)⟩,
                ⟨some 31, none, .bin .mul (.c (.int .i64 7)) (.t 30)⟩,
                ⟨some 32, none, .bin .shl (.t 29) (.t 31)⟩,
                ⟨some 33, none, .bin .or (.t 23) (.t 32)⟩,
                ⟨some 5, none, .mov (.t 33)⟩])
               (.seq
                (.seq
                 (.reg [⟨some 34, none, .mov (.t 0)⟩,
                  ⟨some 35, none, .mov (.t 6)⟩,
                  ⟨some 36, none, .iaddr (.slice 1) (.t 34) (.t 35)⟩,
                  ⟨some 37, none, .load 1 false (.t 36)⟩,
                  ⟨some 38, none, .bin .geq (.t 37) (.c (.int .u8 128))⟩])
                 (.cond (.t 38)
                  (.exit 1)
                  .skip))
                (.seq
                 (.seq
                  (.reg [⟨some 39, none, .mov (.t 0)⟩,
                   ⟨some 40, none, .mov (.t 6)⟩,
                   ⟨some 41, none, .iaddr (.slice 1) (.t 39) (.t 40)⟩,
                   ⟨some 42, none, .load 1 false (.t 41)⟩,
                   ⟨some 43, none, .bin .eql (.t 42) (.c (.int .u8 0))⟩,
                   ⟨some 44, none, .mov (.t 43)⟩,
                   ⟨some 45, some (44, true), .mov (.t 6)⟩,
                   ⟨some 46, some (44, true), .bin .gtr (.t 45) (.c (.int .i64 0))⟩,
                   ⟨some 47, none, .pick (.t 44) (.t 46) (.c (.bool false))⟩])
                  (.cond (.t 47)
                   (.seq
                    (.reg [⟨some 2, none, .mov (.c (.int .i64 0))⟩,
                     ⟨some 3, none, .mov (.c (.int .i64 0))⟩,
                     ⟨some 4, none, .mov (.c (.int .i64 10))⟩])
                    .ret)
                   .skip))
                 (.seq
                  (.reg [⟨some 48, none, .mov (.t 5)⟩,
                   ⟨some 49, none, .bin .shr (.t 48) (.c (.int .u64 1))⟩,
                   ⟨some 50, none, .conv (.int .i64) (.t 49)⟩,
                   ⟨some 51, none, .mov (.t 5)⟩,
                   ⟨some 52, none, .bin .and (.t 51) (.c (.int .u64 1))⟩,
                   ⟨some 53, none, .conv (.int .i64) (.t 52)⟩,
                   ⟨some 54, none, .un .neg (.t 53)⟩,
                   ⟨some 55, none, .bin .xor (.t 50) (.t 54)⟩,
                   ⟨some 56, none, .mov (.t 6)⟩,
                   ⟨some 57, none, .bin .add (.t 56) (.c (.int .i64 1))⟩,
                   ⟨some 2, none, .mov (.t 55)⟩,
                   ⟨some 3, none, .mov (.t 57)⟩,
                   ⟨some 4, none, .mov (.c (.int .i64 0))⟩])
                  .ret))))))))
          (.reg [⟨some 58, none, .bin .add (.t 7) (.c (.int .i64 1))⟩,
           ⟨some 7, none, .mov (.t 58)⟩]))))
/-- tracebook/codec.Int -/
def c41 : AFn := ⟨1, 59, [.t 2, .t 3, .t 4],
 (.seq
  (.reg [⟨some 2, none, .mov (.c (.int .i64 0))⟩,
   ⟨some 3, none, .mov (.c (.int .i64 0))⟩,
   ⟨some 4, none, .mov (.c (.int .i64 0))⟩])
  (.seq
   (.reg [⟨some 5, none, .mov (.c (.int .u64 0))⟩])
   (.seq
    (.seq
     (.reg [⟨some 7, none, .mov (.c (.int .i64 0))⟩])
     (.block 0
      (.loop [0, 5, 7]
       c41b0)))
    (.seq
     (.reg [⟨some 2, none, .mov (.c (.int .i64 0))⟩,
      ⟨some 3, none, .mov (.c (.int .i64 0))⟩,
      ⟨some 4, none, .mov (.c (.int .i64 10))⟩])
     .ret)))), none⟩
def k41 : List (List Nat) := [[0, 5, 7]]
def o41 : List Nat := [3000000]
/-- tracebook/tracebookref05.integer -/
def c42 : AFn := ⟨1, 14, [.t 2],
 (.seq
  (.reg [⟨some 2, none, .mov (.c (.int .i64 0))⟩])
  (.seq
   (.seq
    (.reg [⟨some 3, none, .mov (.t 0)⟩,
     ⟨some 4, none, .bin .rem (.t 3) (.c (.int .u64 2))⟩,
     ⟨some 5, none, .bin .eql (.t 4) (.c (.int .u64 1))⟩])
    (.cond (.t 5)
     (.seq
      (.reg [⟨some 6, none, .mov (.t 0)⟩,
       ⟨some 7, none, .bin .quo (.t 6) (.c (.int .u64 2))⟩,
       ⟨some 8, none, .conv (.int .i64) (.t 7)⟩,
       ⟨some 9, none, .un .neg (.t 8)⟩,
       ⟨some 10, none, .bin .sub (.t 9) (.c (.int .i64 1))⟩,
       ⟨some 2, none, .mov (.t 10)⟩])
      .ret)
     .skip))
   (.seq
    (.reg [⟨some 11, none, .mov (.t 0)⟩,
     ⟨some 12, none, .bin .quo (.t 11) (.c (.int .u64 2))⟩,
     ⟨some 13, none, .conv (.int .i64) (.t 12)⟩,
     ⟨some 2, none, .mov (.t 13)⟩])
    .ret))), none⟩
def k42 : List (List Nat) := []
def o42 : List Nat := [3000000]
/-- tracebook/tracebookref05.number -/
def c43 : AFn := ⟨1, 14, [.t 2],
 (.seq
  (.reg [⟨some 2, none, .mov (.c (.int .u64 0))⟩])
  (.seq
   (.seq
    (.reg [⟨some 3, none, .mov (.t 0)⟩,
     ⟨some 4, none, .bin .lss (.t 3) (.c (.int .i64 0))⟩])
    (.cond (.t 4)
     (.seq
      (.reg [⟨some 5, none, .mov (.t 0)⟩,
       ⟨some 6, none, .bin .add (.t 5) (.c (.int .i64 1))⟩,
       ⟨some 7, none, .un .neg (.t 6)⟩,
       ⟨some 8, none, .conv (.int .u64) (.t 7)⟩,
       ⟨some 9, none, .bin .mul (.c (.int .u64 2)) (.t 8)⟩,
       ⟨some 10, none, .bin .add (.t 9) (.c (.int .u64 1))⟩,
       ⟨some 2, none, .mov (.t 10)⟩])
      .ret)
     .skip))
   (.seq
    (.reg [⟨some 11, none, .mov (.t 0)⟩,
     ⟨some 12, none, .conv (.int .u64) (.t 11)⟩,
     ⟨some 13, none, .bin .mul (.c (.int .u64 2)) (.t 12)⟩,
     ⟨some 2, none, .mov (.t 13)⟩])
    .ret))), none⟩
def k43 : List (List Nat) := []
def o43 : List Nat := [3000000]
def tbl : List (Nat × AFn) := [(3, c3), (4, c4), (5, c5), (6, c6), (7, c7), (8, c8), (9, c9), (10, c10), (11, c11), (12, c12), (13, c13), (14, c14), (15, c15), (16, c16), (17, c17), (18, c18), (19, c19), (20, c20), (21, c21), (22, c22), (23, c23), (24, c24), (25, c25), (26, c26), (27, c27), (28, c28), (29, c29), (30, c30), (31, c31), (32, c32), (33, c33), (34, c34), (35, c35), (36, c36), (37, c37), (38, c38), (39, c39), (40, c40), (41, c41), (42, c42), (43, c43)]
theorem d3 : digFn Try.prog o3 k3 Try.f3 = some c3 := by kernel_rfl
theorem d4 : digFn Try.prog o4 k4 Try.f4 = some c4 := by kernel_rfl
theorem d5 : digFn Try.prog o5 k5 Try.f5 = some c5 := by kernel_rfl
theorem d6 : digFn Try.prog o6 k6 Try.f6 = some c6 := by kernel_rfl
theorem d7 : digFn Try.prog o7 k7 Try.f7 = some c7 := by kernel_rfl
theorem d8 : digFn Try.prog o8 k8 Try.f8 = some c8 := by kernel_rfl
theorem d9 : digFn Try.prog o9 k9 Try.f9 = some c9 := by kernel_rfl
theorem d10 : digFn Try.prog o10 k10 Try.f10 = some c10 := by kernel_rfl
theorem d11 : digFn Try.prog o11 k11 Try.f11 = some c11 := by kernel_rfl
theorem d12 : digFn Try.prog o12 k12 Try.f12 = some c12 := by kernel_rfl
theorem d13 : digFn Try.prog o13 k13 Try.f13 = some c13 := by kernel_rfl
theorem d14 : digFn Try.prog o14 k14 Try.f14 = some c14 := by kernel_rfl
theorem d15 : digFn Try.prog o15 k15 Try.f15 = some c15 := by kernel_rfl
theorem d16 : digFn Try.prog o16 k16 Try.f16 = some c16 := by kernel_rfl
theorem d17 : digFn Try.prog o17 k17 Try.f17 = some c17 := by kernel_rfl
theorem d18 : digFn Try.prog o18 k18 Try.f18 = some c18 := by kernel_rfl
theorem d19 : digFn Try.prog o19 k19 Try.f19 = some c19 := by kernel_rfl
theorem d20 : digFn Try.prog o20 k20 Try.f20 = some c20 := by kernel_rfl
theorem d21 : digFn Try.prog o21 k21 Try.f21 = some c21 := by kernel_rfl
theorem d22 : digFn Try.prog o22 k22 Try.f22 = some c22 := by kernel_rfl
theorem d23 : digFn Try.prog o23 k23 Try.f23 = some c23 := by kernel_rfl
theorem d24 : digFn Try.prog o24 k24 Try.f24 = some c24 := by kernel_rfl
theorem d25 : digFn Try.prog o25 k25 Try.f25 = some c25 := by kernel_rfl
theorem d26 : digFn Try.prog o26 k26 Try.f26 = some c26 := by kernel_rfl
theorem d27 : digFn Try.prog o27 k27 Try.f27 = some c27 := by kernel_rfl
theorem d28 : digFn Try.prog o28 k28 Try.f28 = some c28 := by kernel_rfl
theorem d29 : digFn Try.prog o29 k29 Try.f29 = some c29 := by kernel_rfl
theorem d30 : digFn Try.prog o30 k30 Try.f30 = some c30 := by kernel_rfl
theorem d31 : digFn Try.prog o31 k31 Try.f31 = some c31 := by kernel_rfl
theorem d32 : digFn Try.prog o32 k32 Try.f32 = some c32 := by kernel_rfl
theorem d33 : digFn Try.prog o33 k33 Try.f33 = some c33 := by kernel_rfl
theorem d34 : digFn Try.prog o34 k34 Try.f34 = some c34 := by kernel_rfl
theorem d35 : digFn Try.prog o35 k35 Try.f35 = some c35 := by kernel_rfl
theorem d36 : digFn Try.prog o36 k36 Try.f36 = some c36 := by kernel_rfl
theorem d37 : digFn Try.prog o37 k37 Try.f37 = some c37 := by kernel_rfl
theorem d38 : digFn Try.prog o38 k38 Try.f38 = some c38 := by kernel_rfl
theorem d39 : digFn Try.prog o39 k39 Try.f39 = some c39 := by kernel_rfl
theorem d40 : digFn Try.prog o40 k40 Try.f40 = some c40 := by kernel_rfl
theorem d41 : digFn Try.prog o41 k41 Try.f41 = some c41 := by kernel_rfl
theorem d42 : digFn Try.prog o42 k42 Try.f42 = some c42 := by kernel_rfl
theorem d43 : digFn Try.prog o43 k43 Try.f43 = some c43 := by kernel_rfl
def Dg (f : Nat) : Option AFn := lookP tbl f
theorem D3 : Dg 3 = some c3 := by kernel_rfl
theorem D4 : Dg 4 = some c4 := by kernel_rfl
theorem D5 : Dg 5 = some c5 := by kernel_rfl
theorem D6 : Dg 6 = some c6 := by kernel_rfl
theorem D7 : Dg 7 = some c7 := by kernel_rfl
theorem D8 : Dg 8 = some c8 := by kernel_rfl
theorem D9 : Dg 9 = some c9 := by kernel_rfl
theorem D10 : Dg 10 = some c10 := by kernel_rfl
theorem D11 : Dg 11 = some c11 := by kernel_rfl
theorem D12 : Dg 12 = some c12 := by kernel_rfl
theorem D13 : Dg 13 = some c13 := by kernel_rfl
theorem D14 : Dg 14 = some c14 := by kernel_rfl
theorem D15 : Dg 15 = some c15 := by kernel_rfl
theorem D16 : Dg 16 = some c16 := by kernel_rfl
theorem D17 : Dg 17 = some c17 := by kernel_rfl
theorem D18 : Dg 18 = some c18 := by kernel_rfl
theorem D19 : Dg 19 = some c19 := by kernel_rfl
theorem D20 : Dg 20 = some c20 := by kernel_rfl
theorem D21 : Dg 21 = some c21 := by kernel_rfl
theorem D22 : Dg 22 = some c22 := by kernel_rfl
theorem D23 : Dg 23 = some c23 := by kernel_rfl
theorem D24 : Dg 24 = some c24 := by kernel_rfl
theorem D25 : Dg 25 = some c25 := by kernel_rfl
theorem D26 : Dg 26 = some c26 := by kernel_rfl
theorem D27 : Dg 27 = some c27 := by kernel_rfl
theorem D28 : Dg 28 = some c28 := by kernel_rfl
theorem D29 : Dg 29 = some c29 := by kernel_rfl
theorem D30 : Dg 30 = some c30 := by kernel_rfl
theorem D31 : Dg 31 = some c31 := by kernel_rfl
theorem D32 : Dg 32 = some c32 := by kernel_rfl
theorem D33 : Dg 33 = some c33 := by kernel_rfl
theorem D34 : Dg 34 = some c34 := by kernel_rfl
theorem D35 : Dg 35 = some c35 := by kernel_rfl
theorem D36 : Dg 36 = some c36 := by kernel_rfl
theorem D37 : Dg 37 = some c37 := by kernel_rfl
theorem D38 : Dg 38 = some c38 := by kernel_rfl
theorem D39 : Dg 39 = some c39 := by kernel_rfl
theorem D40 : Dg 40 = some c40 := by kernel_rfl
theorem D41 : Dg 41 = some c41 := by kernel_rfl
theorem D42 : Dg 42 = some c42 := by kernel_rfl
theorem D43 : Dg 43 = some c43 := by kernel_rfl
theorem dokL [Bs] : ∀ x ∈ tbl, FnOk Try.prog x.1 x.2 :=
  all_cons (fnok Try.func3 d3) (
  all_cons (fnok Try.func4 d4) (
  all_cons (fnok Try.func5 d5) (
  all_cons (fnok Try.func6 d6) (
  all_cons (fnok Try.func7 d7) (
  all_cons (fnok Try.func8 d8) (
  all_cons (fnok Try.func9 d9) (
  all_cons (fnok Try.func10 d10) (
  all_cons (fnok Try.func11 d11) (
  all_cons (fnok Try.func12 d12) (
  all_cons (fnok Try.func13 d13) (
  all_cons (fnok Try.func14 d14) (
  all_cons (fnok Try.func15 d15) (
  all_cons (fnok Try.func16 d16) (
  all_cons (fnok Try.func17 d17) (
  all_cons (fnok Try.func18 d18) (
  all_cons (fnok Try.func19 d19) (
  all_cons (fnok Try.func20 d20) (
  all_cons (fnok Try.func21 d21) (
  all_cons (fnok Try.func22 d22) (
  all_cons (fnok Try.func23 d23) (
  all_cons (fnok Try.func24 d24) (
  all_cons (fnok Try.func25 d25) (
  all_cons (fnok Try.func26 d26) (
  all_cons (fnok Try.func27 d27) (
  all_cons (fnok Try.func28 d28) (
  all_cons (fnok Try.func29 d29) (
  all_cons (fnok Try.func30 d30) (
  all_cons (fnok Try.func31 d31) (
  all_cons (fnok Try.func32 d32) (
  all_cons (fnok Try.func33 d33) (
  all_cons (fnok Try.func34 d34) (
  all_cons (fnok Try.func35 d35) (
  all_cons (fnok Try.func36 d36) (
  all_cons (fnok Try.func37 d37) (
  all_cons (fnok Try.func38 d38) (
  all_cons (fnok Try.func39 d39) (
  all_cons (fnok Try.func40 d40) (
  all_cons (fnok Try.func41 d41) (
  all_cons (fnok Try.func42 d42) (
  all_cons (fnok Try.func43 d43) (
  all_nil)))))))))))))))))))))))))))))))))))))))))
theorem dok (bs : Bs) : DOk Try.prog Dg := fun f fc h => dokL (f, fc) (lookP_mem h)

end Go.Proofs.Ythoncigfbhinlaa
