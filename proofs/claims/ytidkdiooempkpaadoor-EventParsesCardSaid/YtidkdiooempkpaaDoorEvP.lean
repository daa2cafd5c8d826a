/- The code of the functions, as it is read. -/
import Derived.Test.YtidkdiooempkpaaDoorJn
import Derived.Test.YtidkdiooempkpaaDoorProg
namespace Go.Proofs.YtidkdiooempkpaaDoor
open Go
/-- tracebook/tracebooklaw07.EventChecks -/
def c3 : AFn := ⟨1, 15, [.t 2],
 (.seq
  (.reg [⟨some 1, none, .box (.t 0)⟩,
   ⟨some 2, none, .mov (.c (.bool false))⟩])
  (.seq
   (.seq
    (.reg [⟨some 3, none, .load 6 true (.t 1)⟩,
     ⟨some 4, none, .call false 9 [(.t 3)]⟩,
     ⟨some 5, none, .un .not (.t 4)⟩])
    (.cond (.t 5)
     (.seq
      (.reg [⟨some 6, none, .call false 10 []⟩,
       ⟨some 2, none, .mov (.t 6)⟩])
      .ret)
     .skip))
   (.seq
    (.reg [⟨some 7, none, .load 6 true (.t 1)⟩,
     ⟨some 8, none, .call false 11 [(.t 7)]⟩,
     ⟨some 9, none, .load 6 true (.t 1)⟩,
     ⟨some 10, none, .call false 12 [(.t 9)]⟩,
     ⟨some 11, none, .bin .eql (.t 8) (.t 10)⟩,
     ⟨some 12, none, .mov (.t 11)⟩,
     ⟨some 13, some (12, true), .call false 10 []⟩,
     ⟨some 14, none, .pick (.t 12) (.t 13) (.c (.bool false))⟩,
     ⟨some 2, none, .mov (.t 14)⟩])
    .ret))), none⟩
def k3 : List (List Nat) := []
def o3 : List Nat := [1000049, 1000050, 3000000]
/-- tracebook/tracebooklaw07.EventTexts -/
def c4 : AFn := ⟨1, 41, [.t 2],
 (.seq
  (.reg [⟨some 1, none, .box (.t 0)⟩,
   ⟨some 2, none, .mov (.c (.bool false))⟩])
  (.seq
   (.seq
    (.reg [⟨some 6, none, .call false 10 []⟩,
     ⟨some 7, none, .un .not (.t 6)⟩,
     ⟨some 8, none, .mov (.t 7)⟩,
     ⟨some 9, some (8, false), .load 6 true (.t 1)⟩,
     ⟨some 10, some (8, false), .call false 9 [(.t 9)]⟩,
     ⟨some 11, some (8, false), .un .not (.t 10)⟩,
     ⟨some 12, none, .pick (.t 8) (.c (.bool true)) (.t 11)⟩])
    (.cond (.t 12)
     (.seq
      (.reg [⟨some 13, none, .call false 10 []⟩,
       ⟨some 2, none, .mov (.t 13)⟩])
      .ret)
     .skip))
   (.seq
    (.reg [⟨some 14, none, .load 6 true (.t 1)⟩,
     ⟨some 15, none, .call false 13 [(.t 14)]⟩,
     ⟨some 3, none, .mov (.t 15)⟩])
    (.seq
     (.seq
      (.reg [⟨some 16, none, .mov (.t 3)⟩,
       ⟨some 17, none, .load 6 true (.t 1)⟩,
       ⟨some 18, none, .call false 14 [(.t 17)]⟩,
       ⟨some 19, none, .bin .neq (.t 16) (.t 18)⟩])
      (.cond (.t 19)
       (.seq
        (.reg [⟨some 2, none, .mov (.c (.bool false))⟩])
        .ret)
       .skip))
     (.seq
      (.reg [⟨some 21, none, .mov (.t 3)⟩,
       ⟨some 22, none, .call false 15 [(.t 21)]⟩,
       ⟨some 20, none, .mov (.t 22)⟩,
       ⟨some 23, none, .ext (.t 20) 0⟩,
       ⟨some 24, none, .ext (.t 20) 1⟩,
       ⟨some 4, none, .alloc [(.int .i64 0), (.int .i64 0), (.str []), (.int .i64 0), (.int .i64 0), .nilS]⟩,
       ⟨none, none, .store 6 (.t 4) (.t 23)⟩,
       ⟨some 5, none, .mov (.t 24)⟩])
      (.seq
       (.seq
        (.reg [⟨some 25, none, .load 6 true (.t 1)⟩,
         ⟨some 26, none, .call false 11 [(.t 25)]⟩,
         ⟨some 27, none, .bin .neq (.t 26) (.c (.int .i64 0))⟩])
        (.cond (.t 27)
         (.seq
          (.reg [⟨some 28, none, .mov (.t 3)⟩,
           ⟨some 29, none, .bin .eql (.t 28) (.c (.str []))⟩,
           ⟨some 30, none, .mov (.t 29)⟩,
           ⟨some 31, some (30, true), .mov (.t 5)⟩,
           ⟨some 32, some (30, true), .bin .eql (.t 31) (.c (.int .i64 10))⟩,
           ⟨some 33, none, .pick (.t 30) (.t 32) (.c (.bool false))⟩,
           ⟨some 2, none, .mov (.t 33)⟩])
          .ret)
         .skip))
       (.seq
        (.reg [⟨some 34, none, .mov (.t 5)⟩,
         ⟨some 35, none, .bin .eql (.t 34) (.c (.int .i64 0))⟩,
         ⟨some 36, none, .mov (.t 35)⟩,
         ⟨some 37, some (36, true), .load 6 true (.t 4)⟩,
         ⟨some 38, some (36, true), .load 6 true (.t 1)⟩,
         ⟨some 39, some (36, true), .call false 16 [(.t 37), (.t 38)]⟩,
         ⟨some 40, none, .pick (.t 36) (.t 39) (.c (.bool false))⟩,
         ⟨some 2, none, .mov (.t 40)⟩])
        .ret))))))), none⟩
def k4 : List (List Nat) := []
def o4 : List Nat := [1000049, 1000050, 3000000]
/-- tracebook/tracebooklaw07.EventParses -/
def c5 : AFn := ⟨1, 47, [.t 2],
 (.seq
  (.reg [⟨some 2, none, .mov (.c (.bool false))⟩])
  (.seq
   (.seq
    (.reg [⟨some 7, none, .call false 10 []⟩,
     ⟨some 8, none, .un .not (.t 7)⟩,
     ⟨some 9, none, .mov (.t 8)⟩,
     ⟨some 10, some (9, false), .mov (.t 0)⟩,
     ⟨some 11, some (9, false), .lenS (.t 10)⟩,
     ⟨some 12, some (9, false), .bin .gtr (.t 11) (.c (.int .i64 2100))⟩,
     ⟨some 13, none, .pick (.t 9) (.c (.bool true)) (.t 12)⟩])
    (.cond (.t 13)
     (.seq
      (.reg [⟨some 14, none, .call false 10 []⟩,
       ⟨some 2, none, .mov (.t 14)⟩])
      .ret)
     .skip))
   (.seq
    (.reg [⟨some 16, none, .mov (.t 0)⟩,
     ⟨some 17, none, .call false 15 [(.t 16)]⟩,
     ⟨some 15, none, .mov (.t 17)⟩,
     ⟨some 18, none, .ext (.t 15) 0⟩,
     ⟨some 19, none, .ext (.t 15) 1⟩,
     ⟨some 3, none, .alloc [(.int .i64 0), (.int .i64 0), (.str []), (.int .i64 0), (.int .i64 0), .nilS]⟩,
     ⟨none, none, .store 6 (.t 3) (.t 18)⟩,
     ⟨some 4, none, .mov (.t 19)⟩])
    (.seq
     (.reg [⟨some 21, none, .mov (.t 0)⟩,
      ⟨some 22, none, .call false 17 [(.t 21)]⟩,
      ⟨some 20, none, .mov (.t 22)⟩,
      ⟨some 23, none, .ext (.t 20) 0⟩,
      ⟨some 24, none, .ext (.t 20) 1⟩,
      ⟨some 5, none, .alloc [(.int .i64 0), (.int .i64 0), (.str []), (.int .i64 0), (.int .i64 0), .nilS]⟩,
      ⟨none, none, .store 6 (.t 5) (.t 23)⟩,
      ⟨some 6, none, .mov (.t 24)⟩])
     (.seq
      (.seq
       (.reg [⟨some 25, none, .mov (.t 4)⟩,
        ⟨some 26, none, .mov (.t 6)⟩,
        ⟨some 27, none, .bin .neq (.t 25) (.t 26)⟩,
        ⟨some 28, none, .mov (.t 27)⟩,
        ⟨some 29, some (28, false), .load 6 true (.t 3)⟩,
        ⟨some 30, some (28, false), .load 6 true (.t 5)⟩,
        ⟨some 31, some (28, false), .call false 16 [(.t 29), (.t 30)]⟩,
        ⟨some 32, some (28, false), .un .not (.t 31)⟩,
        ⟨some 33, none, .pick (.t 28) (.c (.bool true)) (.t 32)⟩])
       (.cond (.t 33)
        (.seq
         (.reg [⟨some 2, none, .mov (.c (.bool false))⟩])
         .ret)
        .skip))
      (.seq
       (.reg [⟨some 34, none, .mov (.t 4)⟩,
        ⟨some 35, none, .bin .neq (.t 34) (.c (.int .i64 0))⟩,
        ⟨some 36, none, .mov (.t 35)⟩,
        ⟨some 37, some (36, false), .load 6 true (.t 3)⟩,
        ⟨some 38, some (36, false), .call false 13 [(.t 37)]⟩,
        ⟨some 39, some (36, false), .mov (.t 0)⟩,
        ⟨some 40, some (36, false), .bin .eql (.t 38) (.t 39)⟩,
        ⟨some 41, some (36, false), .mov (.t 40)⟩,
        ⟨some 42, some (41, true), .load 6 true (.t 3)⟩,
        ⟨some 43, some (41, true), .call false 11 [(.t 42)]⟩,
        ⟨some 44, some (41, true), .bin .eql (.t 43) (.c (.int .i64 0))⟩,
        ⟨some 45, some (36, false), .pick (.t 41) (.t 44) (.c (.bool false))⟩,
        ⟨some 46, none, .pick (.t 36) (.c (.bool true)) (.t 45)⟩,
        ⟨some 2, none, .mov (.t 46)⟩])
       .ret)))))), none⟩
def k5 : List (List Nat) := []
def o5 : List Nat := [1000049, 1000050, 3000000]
/-- tracebook/tracebooklaw07.EventSame -/
def c6 : AFn := ⟨2, 57, [.t 4],
 (.seq
  (.reg [⟨some 2, none, .box (.t 0)⟩,
   ⟨some 3, none, .box (.t 1)⟩,
   ⟨some 4, none, .mov (.c (.bool false))⟩])
  (.seq
   (.seq
    (.reg [⟨some 6, none, .call false 10 []⟩,
     ⟨some 7, none, .un .not (.t 6)⟩,
     ⟨some 8, none, .mov (.t 7)⟩,
     ⟨some 9, some (8, false), .load 6 true (.t 2)⟩,
     ⟨some 10, some (8, false), .call false 9 [(.t 9)]⟩,
     ⟨some 11, some (8, false), .un .not (.t 10)⟩,
     ⟨some 12, none, .pick (.t 8) (.c (.bool true)) (.t 11)⟩,
     ⟨some 13, none, .mov (.t 12)⟩,
     ⟨some 14, some (13, false), .load 6 true (.t 3)⟩,
     ⟨some 15, some (13, false), .call false 9 [(.t 14)]⟩,
     ⟨some 16, some (13, false), .un .not (.t 15)⟩,
     ⟨some 17, none, .pick (.t 13) (.c (.bool true)) (.t 16)⟩])
    (.cond (.t 17)
     (.seq
      (.reg [⟨some 18, none, .call false 10 []⟩,
       ⟨some 4, none, .mov (.t 18)⟩])
      .ret)
     .skip))
   (.seq
    (.reg [⟨some 19, none, .load 6 true (.t 2)⟩,
     ⟨some 20, none, .load 6 true (.t 3)⟩,
     ⟨some 21, none, .call false 18 [(.t 19), (.t 20)]⟩,
     ⟨some 5, none, .mov (.t 21)⟩])
    (.seq
     (.seq
      (.reg [⟨some 22, none, .mov (.t 5)⟩,
       ⟨some 23, none, .load 6 true (.t 2)⟩,
       ⟨some 24, none, .load 6 true (.t 3)⟩,
       ⟨some 25, none, .call false 16 [(.t 23), (.t 24)]⟩,
       ⟨some 26, none, .beq true (.t 22) (.t 25)⟩,
       ⟨some 27, none, .mov (.t 26)⟩,
       ⟨some 28, some (27, false), .mov (.t 5)⟩,
       ⟨some 29, some (27, false), .load 6 true (.t 3)⟩,
       ⟨some 30, some (27, false), .load 6 true (.t 2)⟩,
       ⟨some 31, some (27, false), .call false 18 [(.t 29), (.t 30)]⟩,
       ⟨some 32, some (27, false), .beq true (.t 28) (.t 31)⟩,
       ⟨some 33, none, .pick (.t 27) (.c (.bool true)) (.t 32)⟩,
       ⟨some 34, none, .mov (.t 33)⟩,
       ⟨some 35, some (34, false), .load 6 true (.t 2)⟩,
       ⟨some 36, some (34, false), .load 6 true (.t 2)⟩,
       ⟨some 37, some (34, false), .call false 18 [(.t 35), (.t 36)]⟩,
       ⟨some 38, some (34, false), .un .not (.t 37)⟩,
       ⟨some 39, none, .pick (.t 34) (.c (.bool true)) (.t 38)⟩])
      (.cond (.t 39)
       (.seq
        (.reg [⟨some 4, none, .mov (.c (.bool false))⟩])
        .ret)
       .skip))
     (.seq
      (.reg [⟨some 40, none, .load 6 true (.t 2)⟩,
       ⟨some 41, none, .call false 11 [(.t 40)]⟩,
       ⟨some 42, none, .bin .neq (.t 41) (.c (.int .i64 0))⟩,
       ⟨some 43, none, .mov (.t 42)⟩,
       ⟨some 44, some (43, false), .load 6 true (.t 3)⟩,
       ⟨some 45, some (43, false), .call false 11 [(.t 44)]⟩,
       ⟨some 46, some (43, false), .bin .neq (.t 45) (.c (.int .i64 0))⟩,
       ⟨some 47, none, .pick (.t 43) (.c (.bool true)) (.t 46)⟩,
       ⟨some 48, none, .mov (.t 47)⟩,
       ⟨some 49, some (48, false), .mov (.t 5)⟩,
       ⟨some 50, some (48, false), .load 6 true (.t 2)⟩,
       ⟨some 51, some (48, false), .call false 13 [(.t 50)]⟩,
       ⟨some 52, some (48, false), .load 6 true (.t 3)⟩,
       ⟨some 53, some (48, false), .call false 13 [(.t 52)]⟩,
       ⟨some 54, some (48, false), .bin .eql (.t 51) (.t 53)⟩,
       ⟨some 55, some (48, false), .beq false (.t 49) (.t 54)⟩,
       ⟨some 56, none, .pick (.t 48) (.c (.bool true)) (.t 55)⟩,
       ⟨some 4, none, .mov (.t 56)⟩])
      .ret))))), none⟩
def k6 : List (List Nat) := []
def o6 : List Nat := [1000049, 1000050, 3000000]
/-- tracebook/tracebooklaw07.EventFields -/
def c7 : AFn := ⟨3, 70, [.t 6],
 (.seq
  (.reg [⟨some 3, none, .box (.t 0)⟩,
   ⟨some 6, none, .mov (.c (.bool false))⟩])
  (.seq
   (.seq
    (.reg [⟨some 10, none, .call false 10 []⟩,
     ⟨some 11, none, .un .not (.t 10)⟩,
     ⟨some 12, none, .mov (.t 11)⟩,
     ⟨some 13, some (12, false), .load 6 true (.t 3)⟩,
     ⟨some 14, some (12, false), .call false 9 [(.t 13)]⟩,
     ⟨some 15, some (12, false), .un .not (.t 14)⟩,
     ⟨some 16, none, .pick (.t 12) (.c (.bool true)) (.t 15)⟩,
     ⟨some 17, none, .mov (.t 16)⟩,
     ⟨some 18, some (17, false), .load 6 true (.t 3)⟩,
     ⟨some 19, some (17, false), .call false 11 [(.t 18)]⟩,
     ⟨some 20, some (17, false), .bin .neq (.t 19) (.c (.int .i64 0))⟩,
     ⟨some 21, none, .pick (.t 17) (.c (.bool true)) (.t 20)⟩,
     ⟨some 22, none, .mov (.t 21)⟩,
     ⟨some 23, some (22, false), .mov (.t 1)⟩,
     ⟨some 24, some (22, false), .bin .eql (.t 23) (.c (.str []))⟩,
     ⟨some 25, none, .pick (.t 22) (.c (.bool true)) (.t 24)⟩,
     ⟨some 26, none, .mov (.t 25)⟩,
     ⟨some 27, some (26, false), .mov (.t 2)⟩,
     ⟨some 28, some (26, false), .bin .eql (.t 27) (.c (.int .i64 0))⟩,
     ⟨some 29, none, .pick (.t 26) (.c (.bool true)) (.t 28)⟩])
    (.cond (.t 29)
     (.seq
      (.reg [⟨some 30, none, .call false 10 []⟩,
       ⟨some 6, none, .mov (.t 30)⟩])
      .ret)
     .skip))
   (.seq
    (.regd [1, 2] [⟨some 31, none, .load 6 true (.t 3)⟩,
     ⟨some 32, none, .load 6 true (.t 3)⟩,
     ⟨some 33, none, .load 6 true (.t 3)⟩,
     ⟨some 7, none, .alloc [(.int .i64 0), (.int .i64 0), (.str []), (.int .i64 0), (.int .i64 0), .nilS]⟩,
     ⟨some 8, none, .alloc [(.int .i64 0), (.int .i64 0), (.str []), (.int .i64 0), (.int .i64 0), .nilS]⟩,
     ⟨some 9, none, .alloc [(.int .i64 0), (.int .i64 0), (.str []), (.int .i64 0), (.int .i64 0), .nilS]⟩,
     ⟨none, none, .store 6 (.t 7) (.t 31)⟩,
     ⟨none, none, .store 6 (.t 8) (.t 32)⟩,
     ⟨none, none, .store 6 (.t 9) (.t 33)⟩])
    (.seq
     (.reg [⟨some 34, none, .mov (.t 1)⟩,
      ⟨some 35, none, .faddr 2 (.t 7)⟩,
      ⟨none, none, .store 1 (.t 35) (.t 34)⟩])
     (.seq
      (.reg [⟨some 36, none, .mov (.t 1)⟩,
       ⟨some 37, none, .bslice false 1 [(.str [])] 1 [(0, (.t 36))]⟩,
       ⟨some 38, none, .faddr 5 (.t 8)⟩,
       ⟨none, none, .store 1 (.t 38) (.t 37)⟩])
      (.seq
       (.reg [⟨some 39, none, .mov (.t 2)⟩,
        ⟨some 40, none, .faddr 3 (.t 9)⟩,
        ⟨none, none, .store 1 (.t 40) (.t 39)⟩])
       (.seq
        (.seq
         (.reg [⟨some 41, none, .faddr 2 (.t 3)⟩,
          ⟨some 42, none, .load 1 false (.t 41)⟩,
          ⟨some 43, none, .bin .eql (.t 42) (.c (.str []))⟩,
          ⟨some 44, none, .mov (.t 43)⟩,
          ⟨some 45, some (44, true), .load 6 true (.t 7)⟩,
          ⟨some 46, some (44, true), .call false 11 [(.t 45)]⟩,
          ⟨some 47, some (44, true), .bin .neq (.t 46) (.c (.int .i64 1))⟩,
          ⟨some 48, none, .pick (.t 44) (.t 47) (.c (.bool false))⟩])
         (.cond (.t 48)
          (.seq
           (.reg [⟨some 6, none, .mov (.c (.bool false))⟩])
           .ret)
          .skip))
        (.seq
         (.seq
          (.reg [⟨some 49, none, .faddr 1 (.t 3)⟩,
           ⟨some 50, none, .load 1 false (.t 49)⟩,
           ⟨some 51, none, .bin .neq (.t 50) (.c (.int .i64 5))⟩,
           ⟨some 52, none, .mov (.t 51)⟩,
           ⟨some 53, some (52, true), .faddr 1 (.t 3)⟩,
           ⟨some 54, some (52, true), .load 1 false (.t 53)⟩,
           ⟨some 55, some (52, true), .bin .neq (.t 54) (.c (.int .i64 11))⟩,
           ⟨some 56, none, .pick (.t 52) (.t 55) (.c (.bool false))⟩,
           ⟨some 57, none, .mov (.t 56)⟩,
           ⟨some 58, some (57, true), .load 6 true (.t 8)⟩,
           ⟨some 59, some (57, true), .call false 11 [(.t 58)]⟩,
           ⟨some 60, some (57, true), .bin .neq (.t 59) (.c (.int .i64 1))⟩,
           ⟨some 61, none, .pick (.t 57) (.t 60) (.c (.bool false))⟩])
          (.cond (.t 61)
           (.seq
            (.reg [⟨some 6, none, .mov (.c (.bool false))⟩])
            .ret)
           .skip))
         (.seq
          (.reg [⟨some 62, none, .faddr 1 (.t 3)⟩,
           ⟨some 63, none, .load 1 false (.t 62)⟩,
           ⟨some 64, none, .bin .geq (.t 63) (.c (.int .i64 4))⟩,
           ⟨some 65, none, .mov (.t 64)⟩,
           ⟨some 66, some (65, false), .load 6 true (.t 9)⟩,
           ⟨some 67, some (65, false), .call false 11 [(.t 66)]⟩,
           ⟨some 68, some (65, false), .bin .eql (.t 67) (.c (.int .i64 1))⟩,
           ⟨some 69, none, .pick (.t 65) (.c (.bool true)) (.t 68)⟩,
           ⟨some 6, none, .mov (.t 69)⟩])
          .ret))))))))), none⟩
def k7 : List (List Nat) := []
def o7 : List Nat := [1000049, 1000050, 3000000]
def c8b0 : AC := (.seq
        (.seq
         (.reg [⟨some 19, none, .mov (.t 7)⟩,
          ⟨some 20, none, .mov (.t 0)⟩,
          ⟨some 21, none, .len (.t 20)⟩,
          ⟨some 22, none, .bin .lss (.t 19) (.t 21)⟩])
         (.cond (.t 22)
          .skip
          (.exit 0)))
        (.seq
         (.block 1
          (.seq
           (.reg [⟨some 25, none, .mov (.t 0)⟩,
            ⟨some 26, none, .mov (.t 7)⟩,
            ⟨some 27, none, .iaddr (.slice 6) (.t 25) (.t 26)⟩,
            ⟨some 28, none, .load 6 true (.t 27)⟩,
            ⟨some 29, none, .call false 9 [(.t 28)]⟩,
            ⟨some 30, none, .un .not (.t 29)⟩])
           (.cond (.t 30)
            (.seq
             (.reg [⟨some 6, none, .mov (.c (.bool true))⟩])
             .ret)
            .skip)))
         (.reg [⟨some 23, none, .mov (.t 7)⟩,
          ⟨some 24, none, .bin .add (.t 23) (.c (.int .i64 1))⟩,
          ⟨some 7, none, .mov (.t 24)⟩])))
def c8r0 : AC := (.seq
     (.reg [⟨some 31, none, .mov (.t 0)⟩,
      ⟨some 32, none, .call false 19 [(.t 31)]⟩,
      ⟨some 8, none, .mov (.t 32)⟩])
     (.seq
      (.seq
       (.reg [⟨some 33, none, .mov (.t 8)⟩,
        ⟨some 34, none, .mov (.t 0)⟩,
        ⟨some 35, none, .call false 20 [(.t 34)]⟩,
        ⟨some 36, none, .bin .neq (.t 33) (.t 35)⟩])
       (.cond (.t 36)
        (.seq
         (.reg [⟨some 6, none, .mov (.c (.bool false))⟩])
         .ret)
        .skip))
      (.seq
       (.reg [⟨some 37, none, .mov (.t 1)⟩,
        ⟨some 38, none, .conv (.int .i64) (.t 37)⟩,
        ⟨some 39, none, .mov (.t 0)⟩,
        ⟨some 40, none, .len (.t 39)⟩,
        ⟨some 41, none, .bin .add (.t 40) (.c (.int .i64 1))⟩,
        ⟨some 42, none, .bin .rem (.t 38) (.t 41)⟩,
        ⟨some 9, none, .mov (.t 42)⟩])
       (.seq
        (.reg [⟨some 43, none, .mov (.t 9)⟩,
         ⟨some 44, none, .mov (.t 2)⟩,
         ⟨some 45, none, .conv (.int .i64) (.t 44)⟩,
         ⟨some 46, none, .mov (.t 0)⟩,
         ⟨some 47, none, .len (.t 46)⟩,
         ⟨some 48, none, .mov (.t 9)⟩,
         ⟨some 49, none, .bin .sub (.t 47) (.t 48)⟩,
         ⟨some 50, none, .bin .add (.t 49) (.c (.int .i64 1))⟩,
         ⟨some 51, none, .bin .rem (.t 45) (.t 50)⟩,
         ⟨some 52, none, .bin .add (.t 43) (.t 51)⟩,
         ⟨some 10, none, .mov (.t 52)⟩])
        (.seq
         (.reg [⟨some 53, none, .mov (.t 8)⟩,
          ⟨some 54, none, .bin .neq (.t 53) (.c (.int .i64 0))⟩,
          ⟨some 55, none, .mov (.t 54)⟩,
          ⟨some 56, some (55, false), .mov (.t 0)⟩,
          ⟨some 57, some (55, false), .mov (.t 9)⟩,
          ⟨some 58, some (55, false), .mov (.t 10)⟩,
          ⟨some 59, some (55, false), .slc (.slice 6) (.t 56) (some (.t 57)) (some (.t 58)) none⟩,
          ⟨some 60, some (55, false), .call false 19 [(.t 59)]⟩,
          ⟨some 61, some (55, false), .bin .eql (.t 60) (.c (.int .i64 0))⟩,
          ⟨some 62, none, .pick (.t 55) (.c (.bool true)) (.t 61)⟩,
          ⟨some 6, none, .mov (.t 62)⟩])
         .ret)))))
/-- tracebook/tracebooklaw07.EventLists -/
def c8 : AFn := ⟨3, 63, [.t 6],
 (.seq
  (.reg [⟨some 6, none, .mov (.c (.bool false))⟩])
  (.seq
   (.seq
    (.reg [⟨some 11, none, .call false 10 []⟩,
     ⟨some 12, none, .un .not (.t 11)⟩,
     ⟨some 13, none, .mov (.t 12)⟩,
     ⟨some 14, some (13, false), .mov (.t 0)⟩,
     ⟨some 15, some (13, false), .len (.t 14)⟩,
     ⟨some 16, some (13, false), .bin .gtr (.t 15) (.c (.int .i64 40))⟩,
     ⟨some 17, none, .pick (.t 13) (.c (.bool true)) (.t 16)⟩])
    (.cond (.t 17)
     (.seq
      (.reg [⟨some 18, none, .call false 10 []⟩,
       ⟨some 6, none, .mov (.t 18)⟩])
      .ret)
     .skip))
   (.seq
    (.seq
     (.reg [⟨some 7, none, .mov (.c (.int .i64 0))⟩])
     (.block 0
      (.loop [0, 1, 2, 7]
       c8b0)))
    c8r0))), none⟩
def k8 : List (List Nat) := [[0, 1, 2, 7]]
def o8 : List Nat := [1000049, 1000050, 3000000]
def c9b0 : AC := (.seq
        (.seq
         (.reg [⟨some 14, none, .mov (.t 3)⟩,
          ⟨some 15, none, .faddr 5 (.t 1)⟩,
          ⟨some 16, none, .load 1 false (.t 15)⟩,
          ⟨some 17, none, .len (.t 16)⟩,
          ⟨some 18, none, .bin .lss (.t 14) (.t 17)⟩])
         (.cond (.t 18)
          .skip
          (.exit 0)))
        (.seq
         (.block 1
          (.seq
           (.reg [⟨some 21, none, .faddr 5 (.t 1)⟩,
            ⟨some 22, none, .load 1 false (.t 21)⟩,
            ⟨some 23, none, .mov (.t 3)⟩,
            ⟨some 24, none, .iaddr (.slice 1) (.t 22) (.t 23)⟩,
            ⟨some 25, none, .load 1 false (.t 24)⟩,
            ⟨some 26, none, .lenS (.t 25)⟩,
            ⟨some 27, none, .bin .gtr (.t 26) (.c (.int .i64 200))⟩])
           (.cond (.t 27)
            (.seq
             (.reg [⟨some 2, none, .mov (.c (.bool false))⟩])
             .ret)
            .skip)))
         (.reg [⟨some 19, none, .mov (.t 3)⟩,
          ⟨some 20, none, .bin .add (.t 19) (.c (.int .i64 1))⟩,
          ⟨some 3, none, .mov (.t 20)⟩])))
/-- tracebook/tracebookref07.Small -/
def c9 : AFn := ⟨1, 28, [.t 2],
 (.seq
  (.reg [⟨some 1, none, .box (.t 0)⟩,
   ⟨some 2, none, .mov (.c (.bool false))⟩])
  (.seq
   (.seq
    (.reg [⟨some 4, none, .faddr 2 (.t 1)⟩,
     ⟨some 5, none, .load 1 false (.t 4)⟩,
     ⟨some 6, none, .lenS (.t 5)⟩,
     ⟨some 7, none, .bin .gtr (.t 6) (.c (.int .i64 200))⟩,
     ⟨some 8, none, .mov (.t 7)⟩,
     ⟨some 9, some (8, false), .faddr 5 (.t 1)⟩,
     ⟨some 10, some (8, false), .load 1 false (.t 9)⟩,
     ⟨some 11, some (8, false), .len (.t 10)⟩,
     ⟨some 12, some (8, false), .bin .gtr (.t 11) (.c (.int .i64 60))⟩,
     ⟨some 13, none, .pick (.t 8) (.c (.bool true)) (.t 12)⟩])
    (.cond (.t 13)
     (.seq
      (.reg [⟨some 2, none, .mov (.c (.bool false))⟩])
      .ret)
     .skip))
   (.seq
    (.seq
     (.reg [⟨some 3, none, .mov (.c (.int .i64 0))⟩])
     (.block 0
      (.loop [1, 3]
       c9b0)))
    (.seq
     (.reg [⟨some 2, none, .mov (.c (.bool true))⟩])
     .ret)))), none⟩
def k9 : List (List Nat) := [[1, 3]]
def o9 : List Nat := [1000049, 1000050, 3000000]
/-- tracebook/tracebooklaw07.awake -/
def c10 : AFn := ⟨0, 51, [.t 0],
 (.seq
  (.reg [⟨some 0, none, .mov (.c (.bool false))⟩])
  (.seq
   (.reg [⟨some 8, none, .call false 15 [(.c (.str [51, 32, 115, 116, 111, 112, 32, 50, 32, 49, 55]))]⟩,
    ⟨some 7, none, .mov (.t 8)⟩,
    ⟨some 9, none, .ext (.t 7) 0⟩,
    ⟨some 10, none, .ext (.t 7) 1⟩,
    ⟨some 1, none, .alloc [(.int .i64 0), (.int .i64 0), (.str []), (.int .i64 0), (.int .i64 0), .nilS]⟩,
    ⟨none, none, .store 6 (.t 1) (.t 9)⟩,
    ⟨some 2, none, .mov (.t 10)⟩])
   (.seq
    (.reg [⟨some 12, none, .call false 15 [(.c (.str [51, 32, 115, 116, 111, 112, 32, 49, 32, 48]))]⟩,
     ⟨some 11, none, .mov (.t 12)⟩,
     ⟨some 13, none, .ext (.t 11) 0⟩,
     ⟨some 14, none, .ext (.t 11) 1⟩,
     ⟨some 3, none, .alloc [(.int .i64 0), (.int .i64 0), (.str []), (.int .i64 0), (.int .i64 0), .nilS]⟩,
     ⟨none, none, .store 6 (.t 3) (.t 13)⟩,
     ⟨some 4, none, .mov (.t 14)⟩])
    (.seq
     (.reg [⟨some 15, none, .bslice false 1 [(.str [])] 2 [(0, (.c (.str [109, 97, 105, 110]))), (1, (.c (.str [102])))]⟩,
      ⟨some 16, none, .build [(.int .i64 0), (.int .i64 0), (.str []), (.int .i64 0), (.int .i64 0), .nilS] [(0, 1, (.c (.int .i64 9))), (1, 1, (.c (.int .i64 5))), (3, 1, (.c (.int .i64 4))), (5, 1, (.t 15))]⟩,
      ⟨some 17, none, .call false 13 [(.t 16)]⟩,
      ⟨some 5, none, .mov (.t 17)⟩])
     (.seq
      (.reg [⟨some 18, none, .build [(.int .i64 0), (.int .i64 0), (.str []), (.int .i64 0), (.int .i64 0), .nilS] [(0, 1, (.c (.int .i64 9))), (1, 1, (.c (.int .i64 5))), (3, 1, (.c (.int .i64 4)))]⟩,
       ⟨some 19, none, .call false 13 [(.t 18)]⟩,
       ⟨some 6, none, .mov (.t 19)⟩])
      (.seq
       (.reg [⟨some 20, none, .mov (.t 2)⟩,
        ⟨some 21, none, .bin .eql (.t 20) (.c (.int .i64 0))⟩,
        ⟨some 22, none, .mov (.t 21)⟩,
        ⟨some 23, some (22, true), .load 6 true (.t 1)⟩,
        ⟨some 24, some (22, true), .build [(.int .i64 0), (.int .i64 0), (.str []), (.int .i64 0), (.int .i64 0), .nilS] [(0, 1, (.c (.int .i64 3))), (1, 1, (.c (.int .i64 9))), (3, 1, (.c (.int .i64 2))), (4, 1, (.c (.int .i64 17)))]⟩,
        ⟨some 25, some (22, true), .call false 18 [(.t 23), (.t 24)]⟩,
        ⟨some 26, none, .pick (.t 22) (.t 25) (.c (.bool false))⟩,
        ⟨some 27, none, .mov (.t 26)⟩,
        ⟨some 28, some (27, true), .mov (.t 4)⟩,
        ⟨some 29, some (27, true), .bin .eql (.t 28) (.c (.int .i64 10))⟩,
        ⟨some 30, none, .pick (.t 27) (.t 29) (.c (.bool false))⟩,
        ⟨some 31, none, .mov (.t 30)⟩,
        ⟨some 32, some (31, true), .mov (.t 5)⟩,
        ⟨some 33, some (31, true), .bin .eql (.t 32) (.c (.str [57, 32, 115, 97, 109, 112, 108, 101, 32, 52, 32, 109, 97, 105, 110, 59, 102]))⟩,
        ⟨some 34, none, .pick (.t 31) (.t 33) (.c (.bool false))⟩,
        ⟨some 35, none, .mov (.t 34)⟩,
        ⟨some 36, some (35, true), .mov (.t 6)⟩,
        ⟨some 37, some (35, true), .bin .eql (.t 36) (.c (.str [57, 32, 115, 97, 109, 112, 108, 101, 32, 52, 32, 59]))⟩,
        ⟨some 38, none, .pick (.t 35) (.t 37) (.c (.bool false))⟩,
        ⟨some 39, none, .mov (.t 38)⟩,
        ⟨some 40, some (39, true), .build [(.int .i64 0), (.int .i64 0), (.str []), (.int .i64 0), (.int .i64 0), .nilS] [(0, 1, (.c (.int .i64 (-1))))]⟩,
        ⟨some 41, some (39, true), .call false 11 [(.t 40)]⟩,
        ⟨some 42, some (39, true), .bin .eql (.t 41) (.c (.int .i64 2))⟩,
        ⟨some 43, none, .pick (.t 39) (.t 42) (.c (.bool false))⟩,
        ⟨some 44, none, .mov (.t 43)⟩,
        ⟨some 45, some (44, true), .build [(.int .i64 0), (.int .i64 0), (.str []), (.int .i64 0), (.int .i64 0), .nilS] [(0, 1, (.c (.int .i64 2))), (1, 1, (.c (.int .i64 2)))]⟩,
        ⟨some 46, some (44, true), .build [(.int .i64 0), (.int .i64 0), (.str []), (.int .i64 0), (.int .i64 0), .nilS] [(0, 1, (.c (.int .i64 1))), (1, 1, (.c (.int .i64 2)))]⟩,
        ⟨some 47, some (44, true), .bslice false 6 [(.int .i64 0), (.int .i64 0), (.str []), (.int .i64 0), (.int .i64 0), .nilS] 2 [(0, (.t 45)), (1, (.t 46))]⟩,
        ⟨some 48, some (44, true), .call false 19 [(.t 47)]⟩,
        ⟨some 49, some (44, true), .bin .eql (.t 48) (.c (.int .i64 11))⟩,
        ⟨some 50, none, .pick (.t 44) (.t 49) (.c (.bool false))⟩,
        ⟨some 0, none, .mov (.t 50)⟩])
       .ret)))))), none⟩
def k10 : List (List Nat) := []
def o10 : List Nat := [1000049, 1000050, 3000000]
/-- tracebook/event.Check -/
def c11 : AFn := ⟨1, 93, [.t 2],
 (.seq
  (.reg [⟨some 1, none, .box (.t 0)⟩,
   ⟨some 2, none, .mov (.c (.int .i64 0))⟩])
  (.seq
   (.seq
    (.reg [⟨some 7, none, .faddr 0 (.t 1)⟩,
     ⟨some 8, none, .load 1 false (.t 7)⟩,
     ⟨some 9, none, .bin .lss (.t 8) (.c (.int .i64 0))⟩,
     ⟨some 10, none, .mov (.t 9)⟩,
     ⟨some 11, some (10, false), .faddr 0 (.t 1)⟩,
     ⟨some 12, some (10, false), .load 1 false (.t 11)⟩,
     ⟨some 13, some (10, false), .bin .gtr (.t 12) (.c (.int .i64 1000000000000))⟩,
     ⟨some 14, none, .pick (.t 10) (.c (.bool true)) (.t 13)⟩])
    (.cond (.t 14)
     (.seq
      (.reg [⟨some 2, none, .mov (.c (.int .i64 2))⟩])
      .ret)
     .skip))
   (.seq
    (.reg [⟨some 16, none, .faddr 1 (.t 1)⟩,
     ⟨some 17, none, .load 1 false (.t 16)⟩,
     ⟨some 18, none, .call false 21 [(.t 17)]⟩,
     ⟨some 15, none, .mov (.t 18)⟩,
     ⟨some 19, none, .ext (.t 15) 0⟩,
     ⟨some 20, none, .ext (.t 15) 1⟩,
     ⟨some 3, none, .alloc [(.str []), (.bool false), (.bool false), (.bool false), (.bool false), (.int .i64 0), (.int .i64 0)]⟩,
     ⟨none, none, .store 7 (.t 3) (.t 19)⟩,
     ⟨some 4, none, .mov (.t 20)⟩])
    (.seq
     (.seq
      (.reg [⟨some 21, none, .mov (.t 4)⟩,
       ⟨some 22, none, .un .not (.t 21)⟩,
       ⟨some 23, none, .mov (.t 22)⟩,
       ⟨some 24, some (23, false), .faddr 1 (.t 3)⟩,
       ⟨some 25, some (23, false), .load 1 false (.t 24)⟩,
       ⟨some 26, some (23, false), .un .not (.t 25)⟩,
       ⟨some 27, some (23, false), .mov (.t 26)⟩,
       ⟨some 28, some (27, true), .faddr 2 (.t 1)⟩,
       ⟨some 29, some (27, true), .load 1 false (.t 28)⟩,
       ⟨some 30, some (27, true), .bin .neq (.t 29) (.c (.str []))⟩,
       ⟨some 31, some (23, false), .pick (.t 27) (.t 30) (.c (.bool false))⟩,
       ⟨some 32, none, .pick (.t 23) (.c (.bool true)) (.t 31)⟩,
       ⟨some 33, none, .mov (.t 32)⟩,
       ⟨some 34, some (33, false), .faddr 2 (.t 3)⟩,
       ⟨some 35, some (33, false), .load 1 false (.t 34)⟩,
       ⟨some 36, some (33, false), .un .not (.t 35)⟩,
       ⟨some 37, some (33, false), .mov (.t 36)⟩,
       ⟨some 38, some (37, true), .faddr 3 (.t 1)⟩,
       ⟨some 39, some (37, true), .load 1 false (.t 38)⟩,
       ⟨some 40, some (37, true), .bin .neq (.t 39) (.c (.int .i64 0))⟩,
       ⟨some 41, some (33, false), .pick (.t 37) (.t 40) (.c (.bool false))⟩,
       ⟨some 42, none, .pick (.t 33) (.c (.bool true)) (.t 41)⟩,
       ⟨some 43, none, .mov (.t 42)⟩,
       ⟨some 44, some (43, false), .faddr 3 (.t 3)⟩,
       ⟨some 45, some (43, false), .load 1 false (.t 44)⟩,
       ⟨some 46, some (43, false), .un .not (.t 45)⟩,
       ⟨some 47, some (43, false), .mov (.t 46)⟩,
       ⟨some 48, some (47, true), .faddr 4 (.t 1)⟩,
       ⟨some 49, some (47, true), .load 1 false (.t 48)⟩,
       ⟨some 50, some (47, true), .bin .neq (.t 49) (.c (.int .i64 0))⟩,
       ⟨some 51, some (43, false), .pick (.t 47) (.t 50) (.c (.bool false))⟩,
       ⟨some 52, none, .pick (.t 43) (.c (.bool true)) (.t 51)⟩,
       ⟨some 53, none, .mov (.t 52)⟩,
       ⟨some 54, some (53, false), .faddr 4 (.t 3)⟩,
       ⟨some 55, some (53, false), .load 1 false (.t 54)⟩,
       ⟨some 56, some (53, false), .un .not (.t 55)⟩,
       ⟨some 57, some (53, false), .mov (.t 56)⟩,
       ⟨some 58, some (57, true), .faddr 5 (.t 1)⟩,
       ⟨some 59, some (57, true), .load 1 false (.t 58)⟩,
       ⟨some 60, some (57, true), .len (.t 59)⟩,
       ⟨some 61, some (57, true), .bin .gtr (.t 60) (.c (.int .i64 0))⟩,
       ⟨some 62, some (53, false), .pick (.t 57) (.t 61) (.c (.bool false))⟩,
       ⟨some 63, none, .pick (.t 53) (.c (.bool true)) (.t 62)⟩])
      (.cond (.t 63)
       (.seq
        (.reg [⟨some 2, none, .mov (.c (.int .i64 1))⟩])
        .ret)
       .skip))
     (.seq
      (.seq
       (.reg [⟨some 64, none, .faddr 1 (.t 3)⟩,
        ⟨some 65, none, .load 1 false (.t 64)⟩])
       (.cond (.t 65)
        (.seq
         (.reg [⟨some 66, none, .faddr 2 (.t 1)⟩,
          ⟨some 67, none, .load 1 false (.t 66)⟩,
          ⟨some 68, none, .call false 22 [(.t 67)]⟩,
          ⟨some 5, none, .mov (.t 68)⟩])
         (.seq
          (.reg [⟨some 69, none, .mov (.t 5)⟩,
           ⟨some 70, none, .bin .neq (.t 69) (.c (.int .i64 0))⟩])
          (.cond (.t 70)
           (.seq
            (.reg [⟨some 71, none, .mov (.t 5)⟩,
             ⟨some 2, none, .mov (.t 71)⟩])
            .ret)
           .skip)))
        .skip))
      (.seq
       (.seq
        (.reg [⟨some 72, none, .faddr 5 (.t 1)⟩,
         ⟨some 73, none, .load 1 false (.t 72)⟩,
         ⟨some 74, none, .call false 23 [(.t 73)]⟩,
         ⟨some 6, none, .mov (.t 74)⟩])
        (.seq
         (.reg [⟨some 75, none, .mov (.t 6)⟩,
          ⟨some 76, none, .bin .neq (.t 75) (.c (.int .i64 0))⟩])
         (.cond (.t 76)
          (.seq
           (.reg [⟨some 77, none, .mov (.t 6)⟩,
            ⟨some 2, none, .mov (.t 77)⟩])
           .ret)
          .skip)))
       (.seq
        (.seq
         (.reg [⟨some 78, none, .faddr 3 (.t 1)⟩,
          ⟨some 79, none, .load 1 false (.t 78)⟩,
          ⟨some 80, none, .faddr 5 (.t 3)⟩,
          ⟨some 81, none, .load 1 false (.t 80)⟩,
          ⟨some 82, none, .bin .lss (.t 79) (.t 81)⟩,
          ⟨some 83, none, .mov (.t 82)⟩,
          ⟨some 84, some (83, false), .faddr 3 (.t 1)⟩,
          ⟨some 85, some (83, false), .load 1 false (.t 84)⟩,
          ⟨some 86, some (83, false), .faddr 6 (.t 3)⟩,
          ⟨some 87, some (83, false), .load 1 false (.t 86)⟩,
          ⟨some 88, some (83, false), .bin .gtr (.t 85) (.t 87)⟩,
          ⟨some 89, none, .pick (.t 83) (.c (.bool true)) (.t 88)⟩])
         (.cond (.t 89)
          (.seq
           (.reg [⟨some 2, none, .mov (.c (.int .i64 2))⟩])
           .ret)
          .skip))
        (.seq
         (.reg [⟨some 90, none, .load 7 true (.t 3)⟩,
          ⟨some 91, none, .load 6 true (.t 1)⟩,
          ⟨some 92, none, .call false 24 [(.t 90), (.t 91)]⟩,
          ⟨some 2, none, .mov (.t 92)⟩])
         .ret)))))))), none⟩
def k11 : List (List Nat) := []
def o11 : List Nat := [1000049, 1000050, 3000000]
/-- tracebook/tracebookref07.Check -/
def c12 : AFn := ⟨1, 80, [.t 2],
 (.seq
  (.reg [⟨some 1, none, .box (.t 0)⟩,
   ⟨some 2, none, .mov (.c (.int .i64 0))⟩])
  (.seq
   (.seq
    (.reg [⟨some 8, none, .faddr 0 (.t 1)⟩,
     ⟨some 9, none, .load 1 false (.t 8)⟩,
     ⟨some 10, none, .bin .lss (.t 9) (.c (.int .i64 0))⟩,
     ⟨some 11, none, .mov (.t 10)⟩,
     ⟨some 12, some (11, false), .faddr 0 (.t 1)⟩,
     ⟨some 13, some (11, false), .load 1 false (.t 12)⟩,
     ⟨some 14, some (11, false), .bin .gtr (.t 13) (.c (.int .i64 1000000000000))⟩,
     ⟨some 15, none, .pick (.t 11) (.c (.bool true)) (.t 14)⟩])
    (.cond (.t 15)
     (.seq
      (.reg [⟨some 2, none, .mov (.c (.int .i64 2))⟩])
      .ret)
     .skip))
   (.seq
    (.seq
     (.reg [⟨some 16, none, .faddr 1 (.t 1)⟩,
      ⟨some 17, none, .load 1 false (.t 16)⟩,
      ⟨some 18, none, .bin .lss (.t 17) (.c (.int .i64 1))⟩,
      ⟨some 19, none, .mov (.t 18)⟩,
      ⟨some 20, some (19, false), .faddr 1 (.t 1)⟩,
      ⟨some 21, some (19, false), .load 1 false (.t 20)⟩,
      ⟨some 22, some (19, false), .bin .gtr (.t 21) (.c (.int .i64 12))⟩,
      ⟨some 23, none, .pick (.t 19) (.c (.bool true)) (.t 22)⟩])
     (.cond (.t 23)
      (.seq
       (.reg [⟨some 2, none, .mov (.c (.int .i64 1))⟩])
       .ret)
      .skip))
    (.seq
     (.reg [⟨some 25, none, .faddr 1 (.t 1)⟩,
      ⟨some 26, none, .load 1 false (.t 25)⟩,
      ⟨some 27, none, .call false 25 [(.t 26)]⟩,
      ⟨some 24, none, .mov (.t 27)⟩,
      ⟨some 28, none, .ext (.t 24) 0⟩,
      ⟨some 29, none, .ext (.t 24) 1⟩,
      ⟨some 30, none, .ext (.t 24) 2⟩,
      ⟨some 31, none, .ext (.t 24) 3⟩,
      ⟨some 3, none, .mov (.t 28)⟩,
      ⟨some 4, none, .mov (.t 29)⟩,
      ⟨some 5, none, .mov (.t 30)⟩,
      ⟨some 6, none, .mov (.t 31)⟩])
     (.seq
      (.seq
       (.reg [⟨some 32, none, .mov (.t 3)⟩,
        ⟨some 33, none, .un .not (.t 32)⟩,
        ⟨some 34, none, .mov (.t 33)⟩,
        ⟨some 35, some (34, true), .faddr 2 (.t 1)⟩,
        ⟨some 36, some (34, true), .load 1 false (.t 35)⟩,
        ⟨some 37, some (34, true), .bin .neq (.t 36) (.c (.str []))⟩,
        ⟨some 38, none, .pick (.t 34) (.t 37) (.c (.bool false))⟩,
        ⟨some 39, none, .mov (.t 38)⟩,
        ⟨some 40, some (39, false), .mov (.t 4)⟩,
        ⟨some 41, some (39, false), .un .not (.t 40)⟩,
        ⟨some 42, some (39, false), .mov (.t 41)⟩,
        ⟨some 43, some (42, true), .faddr 3 (.t 1)⟩,
        ⟨some 44, some (42, true), .load 1 false (.t 43)⟩,
        ⟨some 45, some (42, true), .bin .neq (.t 44) (.c (.int .i64 0))⟩,
        ⟨some 46, some (39, false), .pick (.t 42) (.t 45) (.c (.bool false))⟩,
        ⟨some 47, none, .pick (.t 39) (.c (.bool true)) (.t 46)⟩,
        ⟨some 48, none, .mov (.t 47)⟩,
        ⟨some 49, some (48, false), .mov (.t 5)⟩,
        ⟨some 50, some (48, false), .un .not (.t 49)⟩,
        ⟨some 51, some (48, false), .mov (.t 50)⟩,
        ⟨some 52, some (51, true), .faddr 4 (.t 1)⟩,
        ⟨some 53, some (51, true), .load 1 false (.t 52)⟩,
        ⟨some 54, some (51, true), .bin .neq (.t 53) (.c (.int .i64 0))⟩,
        ⟨some 55, some (48, false), .pick (.t 51) (.t 54) (.c (.bool false))⟩,
        ⟨some 56, none, .pick (.t 48) (.c (.bool true)) (.t 55)⟩,
        ⟨some 57, none, .mov (.t 56)⟩,
        ⟨some 58, some (57, false), .mov (.t 6)⟩,
        ⟨some 59, some (57, false), .un .not (.t 58)⟩,
        ⟨some 60, some (57, false), .mov (.t 59)⟩,
        ⟨some 61, some (60, true), .faddr 5 (.t 1)⟩,
        ⟨some 62, some (60, true), .load 1 false (.t 61)⟩,
        ⟨some 63, some (60, true), .len (.t 62)⟩,
        ⟨some 64, some (60, true), .bin .gtr (.t 63) (.c (.int .i64 0))⟩,
        ⟨some 65, some (57, false), .pick (.t 60) (.t 64) (.c (.bool false))⟩,
        ⟨some 66, none, .pick (.t 57) (.c (.bool true)) (.t 65)⟩])
       (.cond (.t 66)
        (.seq
         (.reg [⟨some 2, none, .mov (.c (.int .i64 1))⟩])
         .ret)
        .skip))
      (.seq
       (.reg [⟨some 7, none, .mov (.c (.int .i64 0))⟩])
       (.seq
        (.seq
         (.reg [⟨some 67, none, .mov (.t 3)⟩])
         (.cond (.t 67)
          (.reg [⟨some 68, none, .faddr 2 (.t 1)⟩,
           ⟨some 69, none, .load 1 false (.t 68)⟩,
           ⟨some 70, none, .call false 26 [(.t 69)]⟩,
           ⟨some 7, none, .mov (.t 70)⟩])
          .skip))
        (.seq
         (.seq
          (.reg [⟨some 71, none, .mov (.t 6)⟩])
          (.cond (.t 71)
           (.reg [⟨some 72, none, .faddr 5 (.t 1)⟩,
            ⟨some 73, none, .load 1 false (.t 72)⟩,
            ⟨some 74, none, .call false 27 [(.t 73)]⟩,
            ⟨some 7, none, .mov (.t 74)⟩])
           .skip))
         (.seq
          (.seq
           (.reg [⟨some 75, none, .mov (.t 7)⟩,
            ⟨some 76, none, .bin .neq (.t 75) (.c (.int .i64 0))⟩])
           (.cond (.t 76)
            (.seq
             (.reg [⟨some 77, none, .mov (.t 7)⟩,
              ⟨some 2, none, .mov (.t 77)⟩])
             .ret)
            .skip))
          (.seq
           (.reg [⟨some 78, none, .load 6 true (.t 1)⟩,
            ⟨some 79, none, .call false 28 [(.t 78)]⟩,
            ⟨some 2, none, .mov (.t 79)⟩])
           .ret)))))))))), none⟩
def k12 : List (List Nat) := []
def o12 : List Nat := [1000049, 1000050, 3000000]
/-- tracebook/event.Text -/
def c13 : AFn := ⟨1, 55, [.t 2],
 (.seq
  (.reg [⟨some 1, none, .box (.t 0)⟩,
   ⟨some 2, none, .mov (.c (.str []))⟩])
  (.seq
   (.seq
    (.reg [⟨some 6, none, .load 6 true (.t 1)⟩,
     ⟨some 7, none, .call false 11 [(.t 6)]⟩,
     ⟨some 8, none, .bin .neq (.t 7) (.c (.int .i64 0))⟩])
    (.cond (.t 8)
     (.seq
      (.reg [⟨some 2, none, .mov (.c (.str []))⟩])
      .ret)
     .skip))
   (.seq
    (.reg [⟨some 10, none, .faddr 1 (.t 1)⟩,
     ⟨some 11, none, .load 1 false (.t 10)⟩,
     ⟨some 12, none, .call false 21 [(.t 11)]⟩,
     ⟨some 9, none, .mov (.t 12)⟩,
     ⟨some 13, none, .ext (.t 9) 0⟩,
     ⟨some 14, none, .ext (.t 9) 1⟩,
     ⟨some 3, none, .alloc [(.str []), (.bool false), (.bool false), (.bool false), (.bool false), (.int .i64 0), (.int .i64 0)]⟩,
     ⟨none, none, .store 7 (.t 3) (.t 13)⟩,
     ⟨some 4, none, .mov (.t 14)⟩])
    (.seq
     (.reg [⟨some 15, none, .faddr 0 (.t 1)⟩,
      ⟨some 16, none, .load 1 false (.t 15)⟩,
      ⟨some 17, none, .call false 29 [(.t 16)]⟩,
      ⟨some 18, none, .faddr 0 (.t 3)⟩,
      ⟨some 19, none, .load 1 false (.t 18)⟩,
      ⟨some 20, none, .bslice true 1 [(.str [])] 2 [(0, (.t 17)), (1, (.t 19))]⟩,
      ⟨some 5, none, .mov (.t 20)⟩])
     (.seq
      (.seq
       (.reg [⟨some 21, none, .faddr 1 (.t 3)⟩,
        ⟨some 22, none, .load 1 false (.t 21)⟩])
       (.cond (.t 22)
        (.reg [⟨some 23, none, .mov (.t 5)⟩,
         ⟨some 24, none, .faddr 2 (.t 1)⟩,
         ⟨some 25, none, .load 1 false (.t 24)⟩,
         ⟨some 26, none, .bslice false 1 [(.str [])] 1 [(0, (.t 25))]⟩,
         ⟨some 27, none, .append 1 16 (.t 23) (.t 26)⟩,
         ⟨some 5, none, .mov (.t 27)⟩])
        .skip))
      (.seq
       (.seq
        (.reg [⟨some 28, none, .faddr 2 (.t 3)⟩,
         ⟨some 29, none, .load 1 false (.t 28)⟩])
        (.cond (.t 29)
         (.reg [⟨some 30, none, .mov (.t 5)⟩,
          ⟨some 31, none, .faddr 3 (.t 1)⟩,
          ⟨some 32, none, .load 1 false (.t 31)⟩,
          ⟨some 33, none, .call false 29 [(.t 32)]⟩,
          ⟨some 34, none, .bslice false 1 [(.str [])] 1 [(0, (.t 33))]⟩,
          ⟨some 35, none, .append 1 16 (.t 30) (.t 34)⟩,
          ⟨some 5, none, .mov (.t 35)⟩])
         .skip))
       (.seq
        (.seq
         (.reg [⟨some 36, none, .load 7 true (.t 3)⟩,
          ⟨some 37, none, .load 6 true (.t 1)⟩,
          ⟨some 38, none, .call false 30 [(.t 36), (.t 37)]⟩])
         (.cond (.t 38)
          (.reg [⟨some 39, none, .mov (.t 5)⟩,
           ⟨some 40, none, .faddr 4 (.t 1)⟩,
           ⟨some 41, none, .load 1 false (.t 40)⟩,
           ⟨some 42, none, .call false 29 [(.t 41)]⟩,
           ⟨some 43, none, .bslice false 1 [(.str [])] 1 [(0, (.t 42))]⟩,
           ⟨some 44, none, .append 1 16 (.t 39) (.t 43)⟩,
           ⟨some 5, none, .mov (.t 44)⟩])
          .skip))
        (.seq
         (.seq
          (.reg [⟨some 45, none, .faddr 4 (.t 3)⟩,
           ⟨some 46, none, .load 1 false (.t 45)⟩])
          (.cond (.t 46)
           (.reg [⟨some 47, none, .mov (.t 5)⟩,
            ⟨some 48, none, .faddr 5 (.t 1)⟩,
            ⟨some 49, none, .load 1 false (.t 48)⟩,
            ⟨some 50, none, .call false 31 [(.t 49)]⟩,
            ⟨some 51, none, .bslice false 1 [(.str [])] 1 [(0, (.t 50))]⟩,
            ⟨some 52, none, .append 1 16 (.t 47) (.t 51)⟩,
            ⟨some 5, none, .mov (.t 52)⟩])
           .skip))
         (.seq
          (.reg [⟨some 53, none, .mov (.t 5)⟩,
           ⟨some 54, none, .call false 32 [(.t 53), (.c (.str [32]))]⟩,
           ⟨some 2, none, .mov (.t 54)⟩])
          .ret))))))))), none⟩
def k13 : List (List Nat) := []
def o13 : List Nat := [1000049, 1000050, 3000000, 20]
/-- tracebook/tracebookref07.Text -/
def c14 : AFn := ⟨1, 75, [.t 2],
 (.seq
  (.reg [⟨some 1, none, .box (.t 0)⟩,
   ⟨some 2, none, .mov (.c (.str []))⟩])
  (.seq
   (.seq
    (.reg [⟨some 8, none, .load 6 true (.t 1)⟩,
     ⟨some 9, none, .call false 12 [(.t 8)]⟩,
     ⟨some 10, none, .bin .neq (.t 9) (.c (.int .i64 0))⟩])
    (.cond (.t 10)
     (.seq
      (.reg [⟨some 2, none, .mov (.c (.str []))⟩])
      .ret)
     .skip))
   (.seq
    (.reg [⟨some 12, none, .faddr 1 (.t 1)⟩,
     ⟨some 13, none, .load 1 false (.t 12)⟩,
     ⟨some 14, none, .call false 25 [(.t 13)]⟩,
     ⟨some 11, none, .mov (.t 14)⟩,
     ⟨some 15, none, .ext (.t 11) 0⟩,
     ⟨some 16, none, .ext (.t 11) 1⟩,
     ⟨some 17, none, .ext (.t 11) 2⟩,
     ⟨some 18, none, .ext (.t 11) 3⟩,
     ⟨some 3, none, .mov (.t 15)⟩,
     ⟨some 4, none, .mov (.t 16)⟩,
     ⟨some 5, none, .mov (.t 17)⟩,
     ⟨some 6, none, .mov (.t 18)⟩])
    (.seq
     (.reg [⟨some 19, none, .faddr 0 (.t 1)⟩,
      ⟨some 20, none, .load 1 false (.t 19)⟩,
      ⟨some 21, none, .call false 33 [(.t 20)]⟩,
      ⟨some 22, none, .faddr 1 (.t 1)⟩,
      ⟨some 23, none, .load 1 false (.t 22)⟩,
      ⟨some 24, none, .call false 34 [(.t 23)]⟩,
      ⟨some 25, none, .bslice true 1 [(.str [])] 2 [(0, (.t 21)), (1, (.t 24))]⟩,
      ⟨some 7, none, .mov (.t 25)⟩])
     (.seq
      (.seq
       (.reg [⟨some 26, none, .mov (.t 3)⟩])
       (.cond (.t 26)
        (.reg [⟨some 27, none, .mov (.t 7)⟩,
         ⟨some 28, none, .faddr 2 (.t 1)⟩,
         ⟨some 29, none, .load 1 false (.t 28)⟩,
         ⟨some 30, none, .bslice false 1 [(.str [])] 1 [(0, (.t 29))]⟩,
         ⟨some 31, none, .append 1 16 (.t 27) (.t 30)⟩,
         ⟨some 7, none, .mov (.t 31)⟩])
        .skip))
      (.seq
       (.seq
        (.reg [⟨some 32, none, .mov (.t 4)⟩])
        (.cond (.t 32)
         (.reg [⟨some 33, none, .mov (.t 7)⟩,
          ⟨some 34, none, .faddr 3 (.t 1)⟩,
          ⟨some 35, none, .load 1 false (.t 34)⟩,
          ⟨some 36, none, .call false 33 [(.t 35)]⟩,
          ⟨some 37, none, .bslice false 1 [(.str [])] 1 [(0, (.t 36))]⟩,
          ⟨some 38, none, .append 1 16 (.t 33) (.t 37)⟩,
          ⟨some 7, none, .mov (.t 38)⟩])
         .skip))
       (.seq
        (.seq
         (.reg [⟨some 39, none, .mov (.t 5)⟩,
          ⟨some 40, none, .mov (.t 39)⟩,
          ⟨some 41, some (40, true), .faddr 1 (.t 1)⟩,
          ⟨some 42, some (40, true), .load 1 false (.t 41)⟩,
          ⟨some 43, some (40, true), .bin .neq (.t 42) (.c (.int .i64 9))⟩,
          ⟨some 44, some (40, true), .mov (.t 43)⟩,
          ⟨some 45, some (44, false), .faddr 3 (.t 1)⟩,
          ⟨some 46, some (44, false), .load 1 false (.t 45)⟩,
          ⟨some 47, some (44, false), .bin .eql (.t 46) (.c (.int .i64 2))⟩,
          ⟨some 48, some (40, true), .pick (.t 44) (.c (.bool true)) (.t 47)⟩,
          ⟨some 49, none, .pick (.t 40) (.t 48) (.c (.bool false))⟩])
         (.cond (.t 49)
          (.reg [⟨some 50, none, .mov (.t 7)⟩,
           ⟨some 51, none, .faddr 4 (.t 1)⟩,
           ⟨some 52, none, .load 1 false (.t 51)⟩,
           ⟨some 53, none, .call false 33 [(.t 52)]⟩,
           ⟨some 54, none, .bslice false 1 [(.str [])] 1 [(0, (.t 53))]⟩,
           ⟨some 55, none, .append 1 16 (.t 50) (.t 54)⟩,
           ⟨some 7, none, .mov (.t 55)⟩])
          .skip))
        (.seq
         (.seq
          (.reg [⟨some 56, none, .mov (.t 6)⟩,
           ⟨some 57, none, .mov (.t 56)⟩,
           ⟨some 58, some (57, true), .faddr 5 (.t 1)⟩,
           ⟨some 59, some (57, true), .load 1 false (.t 58)⟩,
           ⟨some 60, some (57, true), .len (.t 59)⟩,
           ⟨some 61, some (57, true), .bin .eql (.t 60) (.c (.int .i64 0))⟩,
           ⟨some 62, none, .pick (.t 57) (.t 61) (.c (.bool false))⟩])
          (.cond (.t 62)
           (.reg [⟨some 63, none, .mov (.t 7)⟩,
            ⟨some 64, none, .bslice false 1 [(.str [])] 1 [(0, (.c (.str [59])))]⟩,
            ⟨some 65, none, .append 1 16 (.t 63) (.t 64)⟩,
            ⟨some 7, none, .mov (.t 65)⟩])
           (.seq
            (.reg [⟨some 66, none, .mov (.t 6)⟩])
            (.cond (.t 66)
             (.reg [⟨some 67, none, .mov (.t 7)⟩,
              ⟨some 68, none, .faddr 5 (.t 1)⟩,
              ⟨some 69, none, .load 1 false (.t 68)⟩,
              ⟨some 70, none, .call false 35 [(.t 69), (.c (.str [59]))]⟩,
              ⟨some 71, none, .bslice false 1 [(.str [])] 1 [(0, (.t 70))]⟩,
              ⟨some 72, none, .append 1 16 (.t 67) (.t 71)⟩,
              ⟨some 7, none, .mov (.t 72)⟩])
             .skip))))
         (.seq
          (.reg [⟨some 73, none, .mov (.t 7)⟩,
           ⟨some 74, none, .call false 35 [(.t 73), (.c (.str [32]))]⟩,
           ⟨some 2, none, .mov (.t 74)⟩])
          .ret))))))))), none⟩
def k14 : List (List Nat) := []
def o14 : List Nat := [1000049, 1000050, 3000000, 25]
/-- tracebook/event.Parse -/
def c15 : AFn := ⟨1, 26, [.c 2 6 true, .t 3],
 (.seq
  (.reg [⟨some 2, none, .alloc [(.int .i64 0), (.int .i64 0), (.str []), (.int .i64 0), (.int .i64 0), .nilS]⟩,
   ⟨some 3, none, .mov (.c (.int .i64 0))⟩])
  (.seq
   (.seq
    (.reg [⟨some 6, none, .mov (.t 0)⟩,
     ⟨some 7, none, .lenS (.t 6)⟩,
     ⟨some 8, none, .bin .gtr (.t 7) (.c (.int .i64 2000))⟩])
    (.cond (.t 8)
     (.seq
      (.reg [⟨some 9, none, .build [(.int .i64 0), (.int .i64 0), (.str []), (.int .i64 0), (.int .i64 0), .nilS] []⟩,
       ⟨none, none, .store 6 (.t 2) (.t 9)⟩,
       ⟨some 3, none, .mov (.c (.int .i64 7))⟩])
      .ret)
     .skip))
   (.seq
    (.reg [⟨some 11, none, .mov (.t 0)⟩,
     ⟨some 12, none, .call false 37 [(.t 11), (.c (.str [32]))]⟩,
     ⟨some 13, none, .call false 36 [(.t 12)]⟩,
     ⟨some 10, none, .mov (.t 13)⟩,
     ⟨some 14, none, .ext (.t 10) 0⟩,
     ⟨some 15, none, .ext (.t 10) 1⟩,
     ⟨some 4, none, .alloc [(.int .i64 0), (.int .i64 0), (.str []), (.int .i64 0), (.int .i64 0), .nilS]⟩,
     ⟨none, none, .store 6 (.t 4) (.t 14)⟩,
     ⟨some 5, none, .mov (.t 15)⟩])
    (.seq
     (.seq
      (.reg [⟨some 16, none, .mov (.t 5)⟩,
       ⟨some 17, none, .un .not (.t 16)⟩,
       ⟨some 18, none, .mov (.t 17)⟩,
       ⟨some 19, some (18, false), .load 6 true (.t 4)⟩,
       ⟨some 20, some (18, false), .call false 13 [(.t 19)]⟩,
       ⟨some 21, some (18, false), .mov (.t 0)⟩,
       ⟨some 22, some (18, false), .bin .neq (.t 20) (.t 21)⟩,
       ⟨some 23, none, .pick (.t 18) (.c (.bool true)) (.t 22)⟩])
      (.cond (.t 23)
       (.seq
        (.reg [⟨some 24, none, .build [(.int .i64 0), (.int .i64 0), (.str []), (.int .i64 0), (.int .i64 0), .nilS] []⟩,
         ⟨none, none, .store 6 (.t 2) (.t 24)⟩,
         ⟨some 3, none, .mov (.c (.int .i64 10))⟩])
        .ret)
       .skip))
     (.seq
      (.reg [⟨some 25, none, .load 6 true (.t 4)⟩,
       ⟨none, none, .store 6 (.t 2) (.t 25)⟩,
       ⟨some 3, none, .mov (.c (.int .i64 0))⟩])
      .ret))))), none⟩
def k15 : List (List Nat) := []
def o15 : List Nat := [1000049, 1000050, 3000000]
/-- tracebook/tracebookref07.Same -/
def c16 : AFn := ⟨2, 45, [.t 4],
 (.seq
  (.reg [⟨some 2, none, .box (.t 0)⟩,
   ⟨some 3, none, .box (.t 1)⟩,
   ⟨some 4, none, .mov (.c (.bool false))⟩])
  (.seq
   (.reg [⟨some 5, none, .faddr 0 (.t 2)⟩,
    ⟨some 6, none, .load 1 false (.t 5)⟩,
    ⟨some 7, none, .faddr 0 (.t 3)⟩,
    ⟨some 8, none, .load 1 false (.t 7)⟩,
    ⟨some 9, none, .bin .eql (.t 6) (.t 8)⟩,
    ⟨some 10, none, .mov (.t 9)⟩,
    ⟨some 11, some (10, true), .faddr 1 (.t 2)⟩,
    ⟨some 12, some (10, true), .load 1 false (.t 11)⟩,
    ⟨some 13, some (10, true), .faddr 1 (.t 3)⟩,
    ⟨some 14, some (10, true), .load 1 false (.t 13)⟩,
    ⟨some 15, some (10, true), .bin .eql (.t 12) (.t 14)⟩,
    ⟨some 16, none, .pick (.t 10) (.t 15) (.c (.bool false))⟩,
    ⟨some 17, none, .mov (.t 16)⟩,
    ⟨some 18, some (17, true), .faddr 2 (.t 2)⟩,
    ⟨some 19, some (17, true), .load 1 false (.t 18)⟩,
    ⟨some 20, some (17, true), .faddr 2 (.t 3)⟩,
    ⟨some 21, some (17, true), .load 1 false (.t 20)⟩,
    ⟨some 22, some (17, true), .bin .eql (.t 19) (.t 21)⟩,
    ⟨some 23, none, .pick (.t 17) (.t 22) (.c (.bool false))⟩,
    ⟨some 24, none, .mov (.t 23)⟩,
    ⟨some 25, some (24, true), .faddr 3 (.t 2)⟩,
    ⟨some 26, some (24, true), .load 1 false (.t 25)⟩,
    ⟨some 27, some (24, true), .faddr 3 (.t 3)⟩,
    ⟨some 28, some (24, true), .load 1 false (.t 27)⟩,
    ⟨some 29, some (24, true), .bin .eql (.t 26) (.t 28)⟩,
    ⟨some 30, none, .pick (.t 24) (.t 29) (.c (.bool false))⟩,
    ⟨some 31, none, .mov (.t 30)⟩,
    ⟨some 32, some (31, true), .faddr 4 (.t 2)⟩,
    ⟨some 33, some (31, true), .load 1 false (.t 32)⟩,
    ⟨some 34, some (31, true), .faddr 4 (.t 3)⟩,
    ⟨some 35, some (31, true), .load 1 false (.t 34)⟩,
    ⟨some 36, some (31, true), .bin .eql (.t 33) (.t 35)⟩,
    ⟨some 37, none, .pick (.t 31) (.t 36) (.c (.bool false))⟩,
    ⟨some 38, none, .mov (.t 37)⟩,
    ⟨some 39, some (38, true), .faddr 5 (.t 2)⟩,
    ⟨some 40, some (38, true), .load 1 false (.t 39)⟩,
    ⟨some 41, some (38, true), .faddr 5 (.t 3)⟩,
    ⟨some 42, some (38, true), .load 1 false (.t 41)⟩,
    ⟨some 43, some (38, true), .call false 38 [(.t 40), (.t 42)]⟩,
    ⟨some 44, none, .pick (.t 38) (.t 43) (.c (.bool false))⟩,
    ⟨some 4, none, .mov (.t 44)⟩])
   .ret)), none⟩
def k16 : List (List Nat) := []
def o16 : List Nat := [1000049, 1000050, 3000000]
/-- tracebook/tracebookref07.Parse -/
def c17 : AFn := ⟨1, 22, [.c 2 6 true, .t 3],
 (.seq
  (.reg [⟨some 2, none, .alloc [(.int .i64 0), (.int .i64 0), (.str []), (.int .i64 0), (.int .i64 0), .nilS]⟩,
   ⟨some 3, none, .mov (.c (.int .i64 0))⟩])
  (.seq
   (.seq
    (.reg [⟨some 5, none, .mov (.t 0)⟩,
     ⟨some 6, none, .lenS (.t 5)⟩,
     ⟨some 7, none, .bin .gtr (.t 6) (.c (.int .i64 2000))⟩])
    (.cond (.t 7)
     (.seq
      (.reg [⟨some 8, none, .build [(.int .i64 0), (.int .i64 0), (.str []), (.int .i64 0), (.int .i64 0), .nilS] []⟩,
       ⟨none, none, .store 6 (.t 2) (.t 8)⟩,
       ⟨some 3, none, .mov (.c (.int .i64 7))⟩])
      .ret)
     .skip))
   (.seq
    (.reg [⟨some 9, none, .mov (.t 0)⟩,
     ⟨some 10, none, .call false 40 [(.t 9), (.c (.int .u8 32))]⟩,
     ⟨some 11, none, .call false 39 [(.t 10)]⟩,
     ⟨some 4, none, .alloc [(.int .i64 0), (.int .i64 0), (.str []), (.int .i64 0), (.int .i64 0), .nilS]⟩,
     ⟨none, none, .store 6 (.t 4) (.t 11)⟩])
    (.seq
     (.seq
      (.reg [⟨some 12, none, .mov (.t 0)⟩,
       ⟨some 13, none, .bin .eql (.t 12) (.c (.str []))⟩,
       ⟨some 14, none, .mov (.t 13)⟩,
       ⟨some 15, some (14, false), .load 6 true (.t 4)⟩,
       ⟨some 16, some (14, false), .call false 14 [(.t 15)]⟩,
       ⟨some 17, some (14, false), .mov (.t 0)⟩,
       ⟨some 18, some (14, false), .bin .neq (.t 16) (.t 17)⟩,
       ⟨some 19, none, .pick (.t 14) (.c (.bool true)) (.t 18)⟩])
      (.cond (.t 19)
       (.seq
        (.reg [⟨some 20, none, .build [(.int .i64 0), (.int .i64 0), (.str []), (.int .i64 0), (.int .i64 0), .nilS] []⟩,
         ⟨none, none, .store 6 (.t 2) (.t 20)⟩,
         ⟨some 3, none, .mov (.c (.int .i64 10))⟩])
        .ret)
       .skip))
     (.seq
      (.reg [⟨some 21, none, .load 6 true (.t 4)⟩,
       ⟨none, none, .store 6 (.t 2) (.t 21)⟩,
       ⟨some 3, none, .mov (.c (.int .i64 0))⟩])
      .ret))))), none⟩
def k17 : List (List Nat) := []
def o17 : List Nat := [1000049, 1000050, 3000000]
/-- tracebook/event.Same -/
def c18 : AFn := ⟨2, 45, [.t 4],
 (.seq
  (.reg [⟨some 2, none, .box (.t 0)⟩,
   ⟨some 3, none, .box (.t 1)⟩,
   ⟨some 4, none, .mov (.c (.bool false))⟩])
  (.seq
   (.reg [⟨some 5, none, .faddr 0 (.t 2)⟩,
    ⟨some 6, none, .load 1 false (.t 5)⟩,
    ⟨some 7, none, .faddr 0 (.t 3)⟩,
    ⟨some 8, none, .load 1 false (.t 7)⟩,
    ⟨some 9, none, .bin .eql (.t 6) (.t 8)⟩,
    ⟨some 10, none, .mov (.t 9)⟩,
    ⟨some 11, some (10, true), .faddr 1 (.t 2)⟩,
    ⟨some 12, some (10, true), .load 1 false (.t 11)⟩,
    ⟨some 13, some (10, true), .faddr 1 (.t 3)⟩,
    ⟨some 14, some (10, true), .load 1 false (.t 13)⟩,
    ⟨some 15, some (10, true), .bin .eql (.t 12) (.t 14)⟩,
    ⟨some 16, none, .pick (.t 10) (.t 15) (.c (.bool false))⟩,
    ⟨some 17, none, .mov (.t 16)⟩,
    ⟨some 18, some (17, true), .faddr 2 (.t 2)⟩,
    ⟨some 19, some (17, true), .load 1 false (.t 18)⟩,
    ⟨some 20, some (17, true), .faddr 2 (.t 3)⟩,
    ⟨some 21, some (17, true), .load 1 false (.t 20)⟩,
    ⟨some 22, some (17, true), .bin .eql (.t 19) (.t 21)⟩,
    ⟨some 23, none, .pick (.t 17) (.t 22) (.c (.bool false))⟩,
    ⟨some 24, none, .mov (.t 23)⟩,
    ⟨some 25, some (24, true), .faddr 3 (.t 2)⟩,
    ⟨some 26, some (24, true), .load 1 false (.t 25)⟩,
    ⟨some 27, some (24, true), .faddr 3 (.t 3)⟩,
    ⟨some 28, some (24, true), .load 1 false (.t 27)⟩,
    ⟨some 29, some (24, true), .bin .eql (.t 26) (.t 28)⟩,
    ⟨some 30, none, .pick (.t 24) (.t 29) (.c (.bool false))⟩,
    ⟨some 31, none, .mov (.t 30)⟩,
    ⟨some 32, some (31, true), .faddr 4 (.t 2)⟩,
    ⟨some 33, some (31, true), .load 1 false (.t 32)⟩,
    ⟨some 34, some (31, true), .faddr 4 (.t 3)⟩,
    ⟨some 35, some (31, true), .load 1 false (.t 34)⟩,
    ⟨some 36, some (31, true), .bin .eql (.t 33) (.t 35)⟩,
    ⟨some 37, none, .pick (.t 31) (.t 36) (.c (.bool false))⟩,
    ⟨some 38, none, .mov (.t 37)⟩,
    ⟨some 39, some (38, true), .faddr 5 (.t 2)⟩,
    ⟨some 40, some (38, true), .load 1 false (.t 39)⟩,
    ⟨some 41, some (38, true), .faddr 5 (.t 3)⟩,
    ⟨some 42, some (38, true), .load 1 false (.t 41)⟩,
    ⟨some 43, some (38, true), .call false 41 [(.t 40), (.t 42)]⟩,
    ⟨some 44, none, .pick (.t 38) (.t 43) (.c (.bool false))⟩,
    ⟨some 4, none, .mov (.t 44)⟩])
   .ret)), none⟩
def k18 : List (List Nat) := []
def o18 : List Nat := [1000049, 1000050, 3000000]
def c19b0 : AC := (.seq
       (.reg [⟨some 9, none, .bin .lss (.t 8) (.t 7)⟩])
       (.seq
        (.cond (.t 9)
         .skip
         (.exit 0))
        (.seq
         (.block 1
          (.seq
           (.reg [⟨some 10, none, .mov (.t 8)⟩,
            ⟨some 11, none, .iaddr (.slice 6) (.t 6) (.t 8)⟩,
            ⟨some 12, none, .load 6 true (.t 11)⟩,
            ⟨some 4, none, .alloc [(.int .i64 0), (.int .i64 0), (.str []), (.int .i64 0), (.int .i64 0), .nilS]⟩,
            ⟨some 3, none, .mov (.t 10)⟩,
            ⟨none, none, .store 6 (.t 4) (.t 12)⟩])
           (.seq
            (.seq
             (.reg [⟨some 13, none, .load 6 true (.t 4)⟩,
              ⟨some 14, none, .call false 11 [(.t 13)]⟩,
              ⟨some 5, none, .mov (.t 14)⟩])
             (.seq
              (.reg [⟨some 15, none, .mov (.t 5)⟩,
               ⟨some 16, none, .bin .neq (.t 15) (.c (.int .i64 0))⟩])
              (.cond (.t 16)
               (.seq
                (.reg [⟨some 17, none, .mov (.t 5)⟩,
                 ⟨some 2, none, .mov (.t 17)⟩])
                .ret)
               .skip)))
            (.seq
             (.reg [⟨some 18, none, .mov (.t 3)⟩,
              ⟨some 19, none, .bin .gtr (.t 18) (.c (.int .i64 0))⟩,
              ⟨some 20, none, .mov (.t 19)⟩,
              ⟨some 21, some (20, true), .faddr 0 (.t 4)⟩,
              ⟨some 22, some (20, true), .load 1 false (.t 21)⟩,
              ⟨some 23, some (20, true), .mov (.t 0)⟩,
              ⟨some 24, some (20, true), .mov (.t 3)⟩,
              ⟨some 25, some (20, true), .bin .sub (.t 24) (.c (.int .i64 1))⟩,
              ⟨some 26, some (20, true), .iaddr (.slice 6) (.t 23) (.t 25)⟩,
              ⟨some 27, some (20, true), .faddr 0 (.t 26)⟩,
              ⟨some 28, some (20, true), .load 1 false (.t 27)⟩,
              ⟨some 29, some (20, true), .bin .lss (.t 22) (.t 28)⟩,
              ⟨some 30, none, .pick (.t 20) (.t 29) (.c (.bool false))⟩])
             (.cond (.t 30)
              (.seq
               (.reg [⟨some 2, none, .mov (.c (.int .i64 11))⟩])
               .ret)
              .skip)))))
         (.reg [⟨some 31, none, .bin .add (.t 8) (.c (.int .i64 1))⟩,
          ⟨some 8, none, .mov (.t 31)⟩]))))
/-- tracebook/event.CheckAll -/
def c19 : AFn := ⟨1, 32, [.t 2],
 (.seq
  (.reg [⟨some 2, none, .mov (.c (.int .i64 0))⟩])
  (.seq
   (.seq
    (.reg [⟨some 6, none, .mov (.t 0)⟩,
     ⟨some 7, none, .len (.t 6)⟩,
     ⟨some 8, none, .mov (.c (.int .i64 0))⟩])
    (.block 0
     (.loop [0, 6, 7, 8]
      c19b0)))
   (.seq
    (.reg [⟨some 2, none, .mov (.c (.int .i64 0))⟩])
    .ret))), none⟩
def k19 : List (List Nat) := [[0, 6, 7, 8]]
def o19 : List Nat := [1000049, 1000050, 3000000]
def c20b0 : AC := (.seq
       (.seq
        (.reg [⟨some 5, none, .mov (.t 3)⟩,
         ⟨some 6, none, .mov (.t 0)⟩,
         ⟨some 7, none, .len (.t 6)⟩,
         ⟨some 8, none, .bin .lss (.t 5) (.t 7)⟩])
        (.cond (.t 8)
         .skip
         (.exit 0)))
       (.seq
        (.block 1
         (.seq
          (.reg [⟨some 11, none, .mov (.t 0)⟩,
           ⟨some 12, none, .mov (.t 3)⟩,
           ⟨some 13, none, .iaddr (.slice 6) (.t 11) (.t 12)⟩,
           ⟨some 14, none, .load 6 true (.t 13)⟩,
           ⟨some 15, none, .call false 12 [(.t 14)]⟩,
           ⟨some 4, none, .mov (.t 15)⟩])
          (.seq
           (.seq
            (.reg [⟨some 16, none, .mov (.t 4)⟩,
             ⟨some 17, none, .bin .neq (.t 16) (.c (.int .i64 0))⟩])
            (.cond (.t 17)
             (.seq
              (.reg [⟨some 18, none, .mov (.t 4)⟩,
               ⟨some 2, none, .mov (.t 18)⟩])
              .ret)
             .skip))
           (.seq
            (.reg [⟨some 19, none, .mov (.t 3)⟩,
             ⟨some 20, none, .bin .gtr (.t 19) (.c (.int .i64 0))⟩,
             ⟨some 21, none, .mov (.t 20)⟩,
             ⟨some 22, some (21, true), .mov (.t 0)⟩,
             ⟨some 23, some (21, true), .mov (.t 3)⟩,
             ⟨some 24, some (21, true), .iaddr (.slice 6) (.t 22) (.t 23)⟩,
             ⟨some 25, some (21, true), .faddr 0 (.t 24)⟩,
             ⟨some 26, some (21, true), .load 1 false (.t 25)⟩,
             ⟨some 27, some (21, true), .mov (.t 0)⟩,
             ⟨some 28, some (21, true), .mov (.t 3)⟩,
             ⟨some 29, some (21, true), .bin .sub (.t 28) (.c (.int .i64 1))⟩,
             ⟨some 30, some (21, true), .iaddr (.slice 6) (.t 27) (.t 29)⟩,
             ⟨some 31, some (21, true), .faddr 0 (.t 30)⟩,
             ⟨some 32, some (21, true), .load 1 false (.t 31)⟩,
             ⟨some 33, some (21, true), .bin .lss (.t 26) (.t 32)⟩,
             ⟨some 34, none, .pick (.t 21) (.t 33) (.c (.bool false))⟩])
            (.cond (.t 34)
             (.seq
              (.reg [⟨some 2, none, .mov (.c (.int .i64 11))⟩])
              .ret)
             .skip)))))
        (.reg [⟨some 9, none, .mov (.t 3)⟩,
         ⟨some 10, none, .bin .add (.t 9) (.c (.int .i64 1))⟩,
         ⟨some 3, none, .mov (.t 10)⟩])))
/-- tracebook/tracebookref07.CheckAll -/
def c20 : AFn := ⟨1, 35, [.t 2],
 (.seq
  (.reg [⟨some 2, none, .mov (.c (.int .i64 0))⟩])
  (.seq
   (.seq
    (.reg [⟨some 3, none, .mov (.c (.int .i64 0))⟩])
    (.block 0
     (.loop [0, 3]
      c20b0)))
   (.seq
    (.reg [⟨some 2, none, .mov (.c (.int .i64 0))⟩])
    .ret))), none⟩
def k20 : List (List Nat) := [[0, 3]]
def o20 : List Nat := [1000049, 1000050, 3000000]
/-- tracebook/event.shapeOf -/
def c21 : AFn := ⟨1, 14, [.c 2 7 true, .t 3],
 (.seq
  (.reg [⟨some 2, none, .alloc [(.str []), (.bool false), (.bool false), (.bool false), (.bool false), (.int .i64 0), (.int .i64 0)]⟩,
   ⟨some 3, none, .mov (.c (.bool false))⟩])
  (.seq
   (.seq
    (.reg [⟨some 4, none, .mov (.t 0)⟩,
     ⟨some 5, none, .bin .lss (.t 4) (.c (.int .i64 1))⟩,
     ⟨some 6, none, .mov (.t 5)⟩,
     ⟨some 7, some (6, false), .mov (.t 0)⟩,
     ⟨some 8, some (6, false), .bin .gtr (.t 7) (.c (.int .i64 12))⟩,
     ⟨some 9, none, .pick (.t 6) (.c (.bool true)) (.t 8)⟩])
    (.cond (.t 9)
     (.seq
      (.reg [⟨some 10, none, .build [(.str []), (.bool false), (.bool false), (.bool false), (.bool false), (.int .i64 0), (.int .i64 0)] []⟩,
       ⟨none, none, .store 7 (.t 2) (.t 10)⟩,
       ⟨some 3, none, .mov (.c (.bool false))⟩])
      .ret)
     .skip))
   (.seq
    (.reg [⟨some 11, none, .mov (.t 0)⟩,
     ⟨some 12, none, .iaddr (.array 13 7) (.c (gcells 0)) (.t 11)⟩,
     ⟨some 13, none, .load 7 true (.t 12)⟩,
     ⟨none, none, .store 7 (.t 2) (.t 13)⟩,
     ⟨some 3, none, .mov (.c (.bool true))⟩])
    .ret))), none⟩
def k21 : List (List Nat) := []
def o21 : List Nat := [1000049, 1000050, 3000000]
def c22b0 : AC := (.seq
        (.reg [⟨some 15, none, .bin .lss (.t 14) (.t 13)⟩])
        (.seq
         (.cond (.t 15)
          .skip
          (.exit 0))
         (.seq
          (.block 1
           (.seq
            (.reg [⟨some 16, none, .mov (.t 14)⟩,
             ⟨some 3, none, .mov (.t 16)⟩])
            (.seq
             (.reg [⟨some 17, none, .mov (.t 0)⟩,
              ⟨some 18, none, .mov (.t 3)⟩,
              ⟨some 19, none, .idxS (.t 17) (.t 18)⟩,
              ⟨some 20, none, .call false 42 [(.t 19)]⟩,
              ⟨some 21, none, .un .not (.t 20)⟩])
             (.cond (.t 21)
              (.seq
               (.reg [⟨some 2, none, .mov (.c (.int .i64 3))⟩])
               .ret)
              .skip))))
          (.reg [⟨some 22, none, .bin .add (.t 14) (.c (.int .i64 1))⟩,
           ⟨some 14, none, .mov (.t 22)⟩]))))
/-- tracebook/intern.Name -/
def c22 : AFn := ⟨1, 23, [.t 2],
 (.seq
  (.reg [⟨some 2, none, .mov (.c (.int .i64 0))⟩])
  (.seq
   (.seq
    (.reg [⟨some 4, none, .mov (.t 0)⟩,
     ⟨some 5, none, .lenS (.t 4)⟩,
     ⟨some 6, none, .bin .lss (.t 5) (.c (.int .i64 1))⟩,
     ⟨some 7, none, .mov (.t 6)⟩,
     ⟨some 8, some (7, false), .mov (.t 0)⟩,
     ⟨some 9, some (7, false), .lenS (.t 8)⟩,
     ⟨some 10, some (7, false), .bin .gtr (.t 9) (.c (.int .i64 40))⟩,
     ⟨some 11, none, .pick (.t 7) (.c (.bool true)) (.t 10)⟩])
    (.cond (.t 11)
     (.seq
      (.reg [⟨some 2, none, .mov (.c (.int .i64 3))⟩])
      .ret)
     .skip))
   (.seq
    (.seq
     (.reg [⟨some 12, none, .mov (.t 0)⟩,
      ⟨some 13, none, .lenS (.t 12)⟩,
      ⟨some 14, none, .mov (.c (.int .i64 0))⟩])
     (.block 0
      (.loop [0, 13, 14]
       c22b0)))
    (.seq
     (.reg [⟨some 2, none, .mov (.c (.int .i64 0))⟩])
     .ret)))), none⟩
def k22 : List (List Nat) := [[0, 13, 14]]
def o22 : List Nat := [1000049, 1000050, 3000000]
def c23b0 : AC := (.seq
        (.reg [⟨some 12, none, .bin .lss (.t 11) (.t 10)⟩])
        (.seq
         (.cond (.t 12)
          .skip
          (.exit 0))
         (.seq
          (.block 1
           (.seq
            (.reg [⟨some 13, none, .iaddr (.slice 1) (.t 9) (.t 11)⟩,
             ⟨some 14, none, .load 1 false (.t 13)⟩,
             ⟨some 4, none, .mov (.t 14)⟩])
            (.seq
             (.reg [⟨some 15, none, .mov (.t 4)⟩,
              ⟨some 16, none, .call false 22 [(.t 15)]⟩,
              ⟨some 5, none, .mov (.t 16)⟩])
             (.seq
              (.reg [⟨some 17, none, .mov (.t 5)⟩,
               ⟨some 18, none, .bin .neq (.t 17) (.c (.int .i64 0))⟩])
              (.cond (.t 18)
               (.seq
                (.reg [⟨some 19, none, .mov (.t 5)⟩,
                 ⟨some 2, none, .mov (.t 19)⟩])
                .ret)
               .skip)))))
          (.reg [⟨some 20, none, .bin .add (.t 11) (.c (.int .i64 1))⟩,
           ⟨some 11, none, .mov (.t 20)⟩]))))
/-- tracebook/intern.Frames -/
def c23 : AFn := ⟨1, 21, [.t 2],
 (.seq
  (.reg [⟨some 2, none, .mov (.c (.int .i64 0))⟩])
  (.seq
   (.seq
    (.reg [⟨some 6, none, .mov (.t 0)⟩,
     ⟨some 7, none, .len (.t 6)⟩,
     ⟨some 8, none, .bin .gtr (.t 7) (.c (.int .i64 32))⟩])
    (.cond (.t 8)
     (.seq
      (.reg [⟨some 2, none, .mov (.c (.int .i64 7))⟩])
      .ret)
     .skip))
   (.seq
    (.seq
     (.reg [⟨some 9, none, .mov (.t 0)⟩,
      ⟨some 10, none, .len (.t 9)⟩,
      ⟨some 11, none, .mov (.c (.int .i64 0))⟩])
     (.block 0
      (.loop [9, 10, 11]
       c23b0)))
    (.seq
     (.reg [⟨some 2, none, .mov (.c (.int .i64 0))⟩])
     .ret)))), none⟩
def k23 : List (List Nat) := [[9, 10, 11]]
def o23 : List Nat := [1000049, 1000050, 3000000]
/-- tracebook/event.checkM -/
def c24 : AFn := ⟨2, 27, [.t 4],
 (.seq
  (.reg [⟨some 2, none, .box (.t 0)⟩,
   ⟨some 3, none, .box (.t 1)⟩,
   ⟨some 4, none, .mov (.c (.int .i64 0))⟩])
  (.seq
   (.seq
    (.reg [⟨some 7, none, .load 7 true (.t 2)⟩,
     ⟨some 8, none, .load 6 true (.t 3)⟩,
     ⟨some 9, none, .call false 30 [(.t 7), (.t 8)]⟩,
     ⟨some 10, none, .un .not (.t 9)⟩])
    (.cond (.t 10)
     (.seq
      (.seq
       (.reg [⟨some 11, none, .faddr 4 (.t 3)⟩,
        ⟨some 12, none, .load 1 false (.t 11)⟩,
        ⟨some 13, none, .bin .neq (.t 12) (.c (.int .i64 0))⟩])
       (.cond (.t 13)
        (.seq
         (.reg [⟨some 4, none, .mov (.c (.int .i64 1))⟩])
         .ret)
        .skip))
      (.seq
       (.reg [⟨some 4, none, .mov (.c (.int .i64 0))⟩])
       .ret))
     .skip))
   (.seq
    (.reg [⟨some 5, none, .mov (.c (.int .i64 0))⟩,
     ⟨some 6, none, .mov (.c (.int .i64 1000000000000000))⟩])
    (.seq
     (.seq
      (.reg [⟨some 14, none, .faddr 1 (.t 3)⟩,
       ⟨some 15, none, .load 1 false (.t 14)⟩,
       ⟨some 16, none, .bin .eql (.t 15) (.c (.int .i64 11))⟩])
      (.cond (.t 16)
       (.reg [⟨some 5, none, .mov (.c (.int .i64 1))⟩,
        ⟨some 6, none, .mov (.c (.int .i64 1000000000000))⟩])
       .skip))
     (.seq
      (.seq
       (.reg [⟨some 17, none, .faddr 4 (.t 3)⟩,
        ⟨some 18, none, .load 1 false (.t 17)⟩,
        ⟨some 19, none, .mov (.t 5)⟩,
        ⟨some 20, none, .bin .lss (.t 18) (.t 19)⟩,
        ⟨some 21, none, .mov (.t 20)⟩,
        ⟨some 22, some (21, false), .faddr 4 (.t 3)⟩,
        ⟨some 23, some (21, false), .load 1 false (.t 22)⟩,
        ⟨some 24, some (21, false), .mov (.t 6)⟩,
        ⟨some 25, some (21, false), .bin .gtr (.t 23) (.t 24)⟩,
        ⟨some 26, none, .pick (.t 21) (.c (.bool true)) (.t 25)⟩])
       (.cond (.t 26)
        (.seq
         (.reg [⟨some 4, none, .mov (.c (.int .i64 2))⟩])
         .ret)
        .skip))
      (.seq
       (.reg [⟨some 4, none, .mov (.c (.int .i64 0))⟩])
       .ret)))))), none⟩
def k24 : List (List Nat) := []
def o24 : List Nat := [1000049, 1000050, 3000000]
/-- tracebook/tracebookref07.uses -/
def c25 : AFn := ⟨1, 38, [.t 2, .t 3, .t 4, .t 5],
 (.seq
  (.reg [⟨some 2, none, .mov (.c (.bool false))⟩,
   ⟨some 3, none, .mov (.c (.bool false))⟩,
   ⟨some 4, none, .mov (.c (.bool false))⟩,
   ⟨some 5, none, .mov (.c (.bool false))⟩])
  (.seq
   (.reg [⟨some 10, none, .mov (.t 0)⟩,
    ⟨some 11, none, .bin .eql (.t 10) (.c (.int .i64 1))⟩,
    ⟨some 12, none, .mov (.t 11)⟩,
    ⟨some 13, some (12, false), .mov (.t 0)⟩,
    ⟨some 14, some (12, false), .bin .eql (.t 13) (.c (.int .i64 3))⟩,
    ⟨some 15, none, .pick (.t 12) (.c (.bool true)) (.t 14)⟩,
    ⟨some 16, none, .mov (.t 15)⟩,
    ⟨some 17, some (16, false), .mov (.t 0)⟩,
    ⟨some 18, some (16, false), .bin .eql (.t 17) (.c (.int .i64 4))⟩,
    ⟨some 19, none, .pick (.t 16) (.c (.bool true)) (.t 18)⟩,
    ⟨some 6, none, .mov (.t 19)⟩])
   (.seq
    (.reg [⟨some 20, none, .mov (.t 0)⟩,
     ⟨some 21, none, .bin .geq (.t 20) (.c (.int .i64 4))⟩,
     ⟨some 7, none, .mov (.t 21)⟩])
    (.seq
     (.reg [⟨some 22, none, .mov (.t 0)⟩,
      ⟨some 23, none, .bin .eql (.t 22) (.c (.int .i64 9))⟩,
      ⟨some 24, none, .mov (.t 23)⟩,
      ⟨some 25, some (24, false), .mov (.t 0)⟩,
      ⟨some 26, some (24, false), .bin .eql (.t 25) (.c (.int .i64 11))⟩,
      ⟨some 27, none, .pick (.t 24) (.c (.bool true)) (.t 26)⟩,
      ⟨some 8, none, .mov (.t 27)⟩])
     (.seq
      (.reg [⟨some 28, none, .mov (.t 0)⟩,
       ⟨some 29, none, .bin .eql (.t 28) (.c (.int .i64 5))⟩,
       ⟨some 30, none, .mov (.t 29)⟩,
       ⟨some 31, some (30, false), .mov (.t 0)⟩,
       ⟨some 32, some (30, false), .bin .eql (.t 31) (.c (.int .i64 11))⟩,
       ⟨some 33, none, .pick (.t 30) (.c (.bool true)) (.t 32)⟩,
       ⟨some 9, none, .mov (.t 33)⟩])
      (.seq
       (.reg [⟨some 34, none, .mov (.t 6)⟩,
        ⟨some 35, none, .mov (.t 7)⟩,
        ⟨some 36, none, .mov (.t 8)⟩,
        ⟨some 37, none, .mov (.t 9)⟩,
        ⟨some 2, none, .mov (.t 34)⟩,
        ⟨some 3, none, .mov (.t 35)⟩,
        ⟨some 4, none, .mov (.t 36)⟩,
        ⟨some 5, none, .mov (.t 37)⟩])
       .ret)))))), none⟩
def k25 : List (List Nat) := []
def o25 : List Nat := [1000049, 1000050, 3000000]
def c26b0 : AC := (.seq
        (.seq
         (.reg [⟨some 12, none, .mov (.t 3)⟩,
          ⟨some 13, none, .mov (.t 0)⟩,
          ⟨some 14, none, .lenS (.t 13)⟩,
          ⟨some 15, none, .bin .lss (.t 12) (.t 14)⟩])
         (.cond (.t 15)
          .skip
          (.exit 0)))
        (.seq
         (.block 1
          (.seq
           (.reg [⟨some 18, none, .mov (.t 0)⟩,
            ⟨some 19, none, .mov (.t 3)⟩,
            ⟨some 20, none, .idxS (.t 18) (.t 19)⟩,
            ⟨some 21, none, .call false 43 [(.t 20)]⟩,
            ⟨some 22, none, .un .not (.t 21)⟩])
           (.cond (.t 22)
            (.seq
             (.reg [⟨some 2, none, .mov (.c (.int .i64 3))⟩])
             .ret)
            .skip)))
         (.reg [⟨some 16, none, .mov (.t 3)⟩,
          ⟨some 17, none, .bin .add (.t 16) (.c (.int .i64 1))⟩,
          ⟨some 3, none, .mov (.t 17)⟩])))
/-- tracebook/tracebookref06.Name -/
def c26 : AFn := ⟨1, 23, [.t 2],
 (.seq
  (.reg [⟨some 2, none, .mov (.c (.int .i64 0))⟩])
  (.seq
   (.seq
    (.reg [⟨some 4, none, .mov (.t 0)⟩,
     ⟨some 5, none, .lenS (.t 4)⟩,
     ⟨some 6, none, .bin .lss (.t 5) (.c (.int .i64 1))⟩,
     ⟨some 7, none, .mov (.t 6)⟩,
     ⟨some 8, some (7, false), .mov (.t 0)⟩,
     ⟨some 9, some (7, false), .lenS (.t 8)⟩,
     ⟨some 10, some (7, false), .bin .gtr (.t 9) (.c (.int .i64 40))⟩,
     ⟨some 11, none, .pick (.t 7) (.c (.bool true)) (.t 10)⟩])
    (.cond (.t 11)
     (.seq
      (.reg [⟨some 2, none, .mov (.c (.int .i64 3))⟩])
      .ret)
     .skip))
   (.seq
    (.seq
     (.reg [⟨some 3, none, .mov (.c (.int .i64 0))⟩])
     (.block 0
      (.loop [0, 3]
       c26b0)))
    (.seq
     (.reg [⟨some 2, none, .mov (.c (.int .i64 0))⟩])
     .ret)))), none⟩
def k26 : List (List Nat) := [[0, 3]]
def o26 : List Nat := [1000049, 1000050, 3000000]
def c27b0 : AC := (.seq
        (.seq
         (.reg [⟨some 7, none, .mov (.t 3)⟩,
          ⟨some 8, none, .mov (.t 0)⟩,
          ⟨some 9, none, .len (.t 8)⟩,
          ⟨some 10, none, .bin .lss (.t 7) (.t 9)⟩])
         (.cond (.t 10)
          .skip
          (.exit 0)))
        (.seq
         (.block 1
          (.seq
           (.reg [⟨some 13, none, .mov (.t 0)⟩,
            ⟨some 14, none, .mov (.t 3)⟩,
            ⟨some 15, none, .iaddr (.slice 1) (.t 13) (.t 14)⟩,
            ⟨some 16, none, .load 1 false (.t 15)⟩,
            ⟨some 17, none, .call false 26 [(.t 16)]⟩,
            ⟨some 18, none, .bin .neq (.t 17) (.c (.int .i64 0))⟩])
           (.cond (.t 18)
            (.seq
             (.reg [⟨some 2, none, .mov (.c (.int .i64 3))⟩])
             .ret)
            .skip)))
         (.reg [⟨some 11, none, .mov (.t 3)⟩,
          ⟨some 12, none, .bin .add (.t 11) (.c (.int .i64 1))⟩,
          ⟨some 3, none, .mov (.t 12)⟩])))
/-- tracebook/tracebookref06.Frames -/
def c27 : AFn := ⟨1, 19, [.t 2],
 (.seq
  (.reg [⟨some 2, none, .mov (.c (.int .i64 0))⟩])
  (.seq
   (.seq
    (.reg [⟨some 4, none, .mov (.t 0)⟩,
     ⟨some 5, none, .len (.t 4)⟩,
     ⟨some 6, none, .bin .gtr (.t 5) (.c (.int .i64 32))⟩])
    (.cond (.t 6)
     (.seq
      (.reg [⟨some 2, none, .mov (.c (.int .i64 7))⟩])
      .ret)
     .skip))
   (.seq
    (.seq
     (.reg [⟨some 3, none, .mov (.c (.int .i64 0))⟩])
     (.block 0
      (.loop [0, 3]
       c27b0)))
    (.seq
     (.reg [⟨some 2, none, .mov (.c (.int .i64 0))⟩])
     .ret)))), none⟩
def k27 : List (List Nat) := [[0, 3]]
def o27 : List Nat := [1000049, 1000050, 3000000]
/-- tracebook/tracebookref07.numbers -/
def c28 : AFn := ⟨1, 63, [.t 2],
 (.seq
  (.reg [⟨some 1, none, .box (.t 0)⟩,
   ⟨some 2, none, .mov (.c (.int .i64 0))⟩])
  (.seq
   (.seq
    (.reg [⟨some 5, none, .faddr 1 (.t 1)⟩,
     ⟨some 6, none, .load 1 false (.t 5)⟩])
    (.block 0
     (.seq
      (.seq
       (.reg [⟨some 8, none, .bin .eql (.t 6) (.c (.int .i64 1))⟩,
        ⟨some 7, none, .mov (.t 8)⟩])
       (.cond (.t 7)
        .skip
        (.seq
         (.reg [⟨some 9, none, .bin .eql (.t 6) (.c (.int .i64 2))⟩,
          ⟨some 7, none, .mov (.t 9)⟩])
         (.cond (.t 7)
          .skip
          (.reg [⟨some 10, none, .bin .eql (.t 6) (.c (.int .i64 3))⟩,
           ⟨some 7, none, .mov (.t 10)⟩])))))
      (.cond (.t 7)
       (.seq
        (.reg [⟨some 2, none, .mov (.c (.int .i64 0))⟩])
        .ret)
       (.seq
        (.reg [⟨some 12, none, .bin .eql (.t 6) (.c (.int .i64 4))⟩,
         ⟨some 11, none, .mov (.t 12)⟩])
        (.cond (.t 11)
         (.seq
          (.reg [⟨some 13, none, .faddr 3 (.t 1)⟩,
           ⟨some 14, none, .load 1 false (.t 13)⟩,
           ⟨some 15, none, .call false 44 [(.t 14), (.c (.int .i64 (-1000000000000000))), (.c (.int .i64 1000000000000000))]⟩,
           ⟨some 2, none, .mov (.t 15)⟩])
          .ret)
         (.seq
          (.reg [⟨some 17, none, .bin .eql (.t 6) (.c (.int .i64 5))⟩,
           ⟨some 16, none, .mov (.t 17)⟩])
          (.cond (.t 16)
           (.seq
            (.reg [⟨some 18, none, .faddr 3 (.t 1)⟩,
             ⟨some 19, none, .load 1 false (.t 18)⟩,
             ⟨some 20, none, .call false 44 [(.t 19), (.c (.int .i64 1)), (.c (.int .i64 1000000000000))]⟩,
             ⟨some 2, none, .mov (.t 20)⟩])
            .ret)
           (.seq
            (.reg [⟨some 22, none, .bin .eql (.t 6) (.c (.int .i64 8))⟩,
             ⟨some 21, none, .mov (.t 22)⟩])
            (.cond (.t 21)
             (.seq
              (.reg [⟨some 23, none, .faddr 3 (.t 1)⟩,
               ⟨some 24, none, .load 1 false (.t 23)⟩,
               ⟨some 25, none, .call false 44 [(.t 24), (.c (.int .i64 0)), (.c (.int .i64 63))]⟩,
               ⟨some 2, none, .mov (.t 25)⟩])
              .ret)
             (.seq
              (.reg [⟨some 27, none, .bin .eql (.t 6) (.c (.int .i64 9))⟩,
               ⟨some 26, none, .mov (.t 27)⟩])
              (.cond (.t 26)
               (.seq
                (.reg [⟨some 28, none, .faddr 3 (.t 1)⟩,
                 ⟨some 29, none, .load 1 false (.t 28)⟩,
                 ⟨some 30, none, .call false 44 [(.t 29), (.c (.int .i64 0)), (.c (.int .i64 3))]⟩,
                 ⟨some 3, none, .mov (.t 30)⟩])
                (.seq
                 (.seq
                  (.reg [⟨some 31, none, .mov (.t 3)⟩,
                   ⟨some 32, none, .bin .eql (.t 31) (.c (.int .i64 0))⟩,
                   ⟨some 33, none, .mov (.t 32)⟩,
                   ⟨some 34, some (33, true), .faddr 3 (.t 1)⟩,
                   ⟨some 35, some (33, true), .load 1 false (.t 34)⟩,
                   ⟨some 36, some (33, true), .bin .eql (.t 35) (.c (.int .i64 2))⟩,
                   ⟨some 37, none, .pick (.t 33) (.t 36) (.c (.bool false))⟩])
                  (.cond (.t 37)
                   (.seq
                    (.reg [⟨some 38, none, .faddr 4 (.t 1)⟩,
                     ⟨some 39, none, .load 1 false (.t 38)⟩,
                     ⟨some 40, none, .call false 44 [(.t 39), (.c (.int .i64 0)), (.c (.int .i64 1000000000000000))]⟩,
                     ⟨some 2, none, .mov (.t 40)⟩])
                    .ret)
                   .skip))
                 (.seq
                  (.seq
                   (.reg [⟨some 41, none, .mov (.t 3)⟩,
                    ⟨some 42, none, .bin .eql (.t 41) (.c (.int .i64 0))⟩,
                    ⟨some 43, none, .mov (.t 42)⟩,
                    ⟨some 44, some (43, true), .faddr 4 (.t 1)⟩,
                    ⟨some 45, some (43, true), .load 1 false (.t 44)⟩,
                    ⟨some 46, some (43, true), .bin .neq (.t 45) (.c (.int .i64 0))⟩,
                    ⟨some 47, none, .pick (.t 43) (.t 46) (.c (.bool false))⟩])
                   (.cond (.t 47)
                    (.seq
                     (.reg [⟨some 2, none, .mov (.c (.int .i64 1))⟩])
                     .ret)
                    .skip))
                  (.seq
                   (.reg [⟨some 48, none, .mov (.t 3)⟩,
                    ⟨some 2, none, .mov (.t 48)⟩])
                   .ret))))
               .skip))))))))))))
   (.seq
    (.reg [⟨some 49, none, .faddr 3 (.t 1)⟩,
     ⟨some 50, none, .load 1 false (.t 49)⟩,
     ⟨some 51, none, .call false 44 [(.t 50), (.c (.int .i64 0)), (.c (.int .i64 1000000000000000))]⟩,
     ⟨some 4, none, .mov (.t 51)⟩])
    (.seq
     (.seq
      (.reg [⟨some 52, none, .mov (.t 4)⟩,
       ⟨some 53, none, .bin .eql (.t 52) (.c (.int .i64 0))⟩,
       ⟨some 54, none, .mov (.t 53)⟩,
       ⟨some 55, some (54, true), .faddr 1 (.t 1)⟩,
       ⟨some 56, some (54, true), .load 1 false (.t 55)⟩,
       ⟨some 57, some (54, true), .bin .eql (.t 56) (.c (.int .i64 11))⟩,
       ⟨some 58, none, .pick (.t 54) (.t 57) (.c (.bool false))⟩])
      (.cond (.t 58)
       (.seq
        (.reg [⟨some 59, none, .faddr 4 (.t 1)⟩,
         ⟨some 60, none, .load 1 false (.t 59)⟩,
         ⟨some 61, none, .call false 44 [(.t 60), (.c (.int .i64 1)), (.c (.int .i64 1000000000000))]⟩,
         ⟨some 2, none, .mov (.t 61)⟩])
        .ret)
       .skip))
     (.seq
      (.reg [⟨some 62, none, .mov (.t 4)⟩,
       ⟨some 2, none, .mov (.t 62)⟩])
      .ret))))), none⟩
def k28 : List (List Nat) := []
def o28 : List Nat := [1000049, 1000050, 3000000]
/-- tracebook/num.Text -/
def c29 : AFn := ⟨1, 5, [.t 2],
 (.seq
  (.reg [⟨some 2, none, .mov (.c (.str []))⟩])
  (.seq
   (.reg [⟨some 3, none, .mov (.t 0)⟩,
    ⟨some 4, none, .call false 45 [(.t 3)]⟩,
    ⟨some 2, none, .mov (.t 4)⟩])
   .ret)), none⟩
def k29 : List (List Nat) := []
def o29 : List Nat := [1000049, 1000050, 3000000]
/-- tracebook/event.usesM -/
def c30 : AFn := ⟨2, 17, [.t 4],
 (.seq
  (.reg [⟨some 2, none, .box (.t 0)⟩,
   ⟨some 3, none, .box (.t 1)⟩,
   ⟨some 4, none, .mov (.c (.bool false))⟩])
  (.seq
   (.reg [⟨some 5, none, .faddr 3 (.t 2)⟩,
    ⟨some 6, none, .load 1 false (.t 5)⟩,
    ⟨some 7, none, .mov (.t 6)⟩,
    ⟨some 8, some (7, true), .faddr 1 (.t 3)⟩,
    ⟨some 9, some (7, true), .load 1 false (.t 8)⟩,
    ⟨some 10, some (7, true), .bin .neq (.t 9) (.c (.int .i64 9))⟩,
    ⟨some 11, some (7, true), .mov (.t 10)⟩,
    ⟨some 12, some (11, false), .faddr 3 (.t 3)⟩,
    ⟨some 13, some (11, false), .load 1 false (.t 12)⟩,
    ⟨some 14, some (11, false), .bin .eql (.t 13) (.c (.int .i64 2))⟩,
    ⟨some 15, some (7, true), .pick (.t 11) (.c (.bool true)) (.t 14)⟩,
    ⟨some 16, none, .pick (.t 7) (.t 15) (.c (.bool false))⟩,
    ⟨some 4, none, .mov (.t 16)⟩])
   .ret)), none⟩
def k30 : List (List Nat) := []
def o30 : List Nat := [1000049, 1000050, 3000000]
/-- tracebook/event.stackText -/
def c31 : AFn := ⟨1, 8, [.t 2],
 (.seq
  (.reg [⟨some 2, none, .mov (.c (.str []))⟩])
  (.seq
   (.seq
    (.reg [⟨some 3, none, .mov (.t 0)⟩,
     ⟨some 4, none, .len (.t 3)⟩,
     ⟨some 5, none, .bin .eql (.t 4) (.c (.int .i64 0))⟩])
    (.cond (.t 5)
     (.seq
      (.reg [⟨some 2, none, .mov (.c (.str [59]))⟩])
      .ret)
     .skip))
   (.seq
    (.reg [⟨some 6, none, .mov (.t 0)⟩,
     ⟨some 7, none, .call false 32 [(.t 6), (.c (.str [59]))]⟩,
     ⟨some 2, none, .mov (.t 7)⟩])
    .ret))), none⟩
def k31 : List (List Nat) := []
def o31 : List Nat := [1000049, 1000050, 3000000]
def c32 : AFn := ⟨1, 0, [], .skip, some (.p xJoin)⟩
/-- tracebook/tracebookref01.Text -/
def c33 : AFn := ⟨1, 38, [.t 2],
 (.seq
  (.reg [⟨some 2, none, .mov (.c (.str []))⟩])
  (.seq
   (.seq
    (.reg [⟨some 4, none, .mov (.t 0)⟩,
     ⟨some 5, none, .bin .lss (.t 4) (.c (.int .i64 0))⟩,
     ⟨some 6, none, .mov (.t 5)⟩,
     ⟨some 7, some (6, true), .mov (.t 0)⟩,
     ⟨some 8, some (6, true), .bin .gtr (.t 7) (.c (.int .i64 (-10)))⟩,
     ⟨some 9, none, .pick (.t 6) (.t 8) (.c (.bool false))⟩])
    (.cond (.t 9)
     (.seq
      (.reg [⟨some 10, none, .mov (.t 0)⟩,
       ⟨some 11, none, .un .neg (.t 10)⟩,
       ⟨some 12, none, .call false 33 [(.t 11)]⟩,
       ⟨some 13, none, .bin .add (.c (.str [45])) (.t 12)⟩,
       ⟨some 2, none, .mov (.t 13)⟩])
      .ret)
     .skip))
   (.seq
    (.seq
     (.reg [⟨some 14, none, .mov (.t 0)⟩,
      ⟨some 15, none, .bin .geq (.t 14) (.c (.int .i64 0))⟩,
      ⟨some 16, none, .mov (.t 15)⟩,
      ⟨some 17, some (16, true), .mov (.t 0)⟩,
      ⟨some 18, some (16, true), .bin .lss (.t 17) (.c (.int .i64 10))⟩,
      ⟨some 19, none, .pick (.t 16) (.t 18) (.c (.bool false))⟩])
     (.cond (.t 19)
      (.seq
       (.reg [⟨some 20, none, .mov (.t 0)⟩,
        ⟨some 21, none, .mov (.t 0)⟩,
        ⟨some 22, none, .bin .add (.t 21) (.c (.int .i64 1))⟩,
        ⟨some 23, none, .slc .string (.c (.str [48, 49, 50, 51, 52, 53, 54, 55, 56, 57])) (some (.t 20)) (some (.t 22)) none⟩,
        ⟨some 2, none, .mov (.t 23)⟩])
       .ret)
      .skip))
    (.seq
     (.reg [⟨some 24, none, .mov (.t 0)⟩,
      ⟨some 25, none, .bin .rem (.t 24) (.c (.int .i64 10))⟩,
      ⟨some 3, none, .mov (.t 25)⟩])
     (.seq
      (.seq
       (.reg [⟨some 26, none, .mov (.t 3)⟩,
        ⟨some 27, none, .bin .lss (.t 26) (.c (.int .i64 0))⟩])
       (.cond (.t 27)
        (.reg [⟨some 28, none, .mov (.t 3)⟩,
         ⟨some 29, none, .un .neg (.t 28)⟩,
         ⟨some 3, none, .mov (.t 29)⟩])
        .skip))
      (.seq
       (.reg [⟨some 30, none, .mov (.t 0)⟩,
        ⟨some 31, none, .bin .quo (.t 30) (.c (.int .i64 10))⟩,
        ⟨some 32, none, .call false 33 [(.t 31)]⟩,
        ⟨some 33, none, .mov (.t 3)⟩,
        ⟨some 34, none, .mov (.t 3)⟩,
        ⟨some 35, none, .bin .add (.t 34) (.c (.int .i64 1))⟩,
        ⟨some 36, none, .slc .string (.c (.str [48, 49, 50, 51, 52, 53, 54, 55, 56, 57])) (some (.t 33)) (some (.t 35)) none⟩,
        ⟨some 37, none, .bin .add (.t 32) (.t 36)⟩,
        ⟨some 2, none, .mov (.t 37)⟩])
       .ret)))))), none⟩
def k33 : List (List Nat) := []
def o33 : List Nat := [1000049, 1000050, 3000000]
/-- tracebook/tracebookref07.word -/
def c34 : AFn := ⟨1, 7, [.t 2],
 (.seq
  (.reg [⟨some 2, none, .mov (.c (.str []))⟩])
  (.seq
   (.reg [⟨some 3, none, .bslice false 1 [(.str [])] 13 [(0, (.c (.str []))), (1, (.c (.str [98, 101, 103, 105, 110]))), (2, (.c (.str [101, 110, 100]))), (3, (.c (.str [109, 97, 114, 107]))), (4, (.c (.str [99, 111, 117, 110, 116]))), (5, (.c (.str [115, 97, 109, 112, 108, 101]))), (6, (.c (.str [115, 101, 110, 100]))), (7, (.c (.str [114, 101, 99, 118]))), (8, (.c (.str [114, 117, 110]))), (9, (.c (.str [115, 116, 111, 112]))), (10, (.c (.str [119, 97, 107, 101]))), (11, (.c (.str [97, 108, 108, 111, 99]))), (12, (.c (.str [102, 114, 101, 101])))]⟩,
    ⟨some 4, none, .mov (.t 0)⟩,
    ⟨some 5, none, .iaddr (.slice 1) (.t 3) (.t 4)⟩,
    ⟨some 6, none, .load 1 false (.t 5)⟩,
    ⟨some 2, none, .mov (.t 6)⟩])
   .ret)), none⟩
def k34 : List (List Nat) := []
def o34 : List Nat := [1000049, 1000050, 3000000]
def c35b0 : AC := (.seq
        (.seq
         (.reg [⟨some 7, none, .mov (.t 6)⟩,
          ⟨some 8, none, .mov (.t 0)⟩,
          ⟨some 9, none, .len (.t 8)⟩,
          ⟨some 10, none, .bin .lss (.t 7) (.t 9)⟩])
         (.cond (.t 10)
          .skip
          (.exit 0)))
        (.seq
         (.block 1
          (.seq
           (.seq
            (.reg [⟨some 13, none, .mov (.t 6)⟩,
             ⟨some 14, none, .bin .gtr (.t 13) (.c (.int .i64 0))⟩])
            (.cond (.t 14)
             (.reg [⟨some 15, none, .mov (.t 5)⟩,
              ⟨some 16, none, .mov (.t 1)⟩,
              ⟨some 17, none, .bin .add (.t 15) (.t 16)⟩,
              ⟨some 5, none, .mov (.t 17)⟩])
             .skip))
           (.reg [⟨some 18, none, .mov (.t 5)⟩,
            ⟨some 19, none, .mov (.t 0)⟩,
            ⟨some 20, none, .mov (.t 6)⟩,
            ⟨some 21, none, .iaddr (.slice 1) (.t 19) (.t 20)⟩,
            ⟨some 22, none, .load 1 false (.t 21)⟩,
            ⟨some 23, none, .bin .add (.t 18) (.t 22)⟩,
            ⟨some 5, none, .mov (.t 23)⟩])))
         (.reg [⟨some 11, none, .mov (.t 6)⟩,
          ⟨some 12, none, .bin .add (.t 11) (.c (.int .i64 1))⟩,
          ⟨some 6, none, .mov (.t 12)⟩])))
/-- tracebook/tracebookref07.Join -/
def c35 : AFn := ⟨2, 25, [.t 4],
 (.seq
  (.reg [⟨some 4, none, .mov (.c (.str []))⟩])
  (.seq
   (.reg [⟨some 5, none, .mov (.c (.str []))⟩])
   (.seq
    (.seq
     (.reg [⟨some 6, none, .mov (.c (.int .i64 0))⟩])
     (.block 0
      (.loop [0, 1, 5, 6]
       c35b0)))
    (.seq
     (.reg [⟨some 24, none, .mov (.t 5)⟩,
      ⟨some 4, none, .mov (.t 24)⟩])
     .ret)))), none⟩
def k35 : List (List Nat) := [[0, 1, 5, 6]]
def o35 : List Nat := [1000049, 1000050, 3000000]
def c36b0 : AC := (.seq
            (.reg [⟨some 23, none, .bin .lss (.t 22) (.c (.int .i64 13))⟩])
            (.seq
             (.cond (.t 23)
              .skip
              (.exit 0))
             (.seq
              (.block 1
               (.seq
                (.reg [⟨some 24, none, .mov (.t 22)⟩,
                 ⟨some 25, none, .idxA 13 7 true (.t 21) (.t 22)⟩,
                 ⟨some 10, none, .alloc [(.str []), (.bool false), (.bool false), (.bool false), (.bool false), (.int .i64 0), (.int .i64 0)]⟩,
                 ⟨some 9, none, .mov (.t 24)⟩,
                 ⟨none, none, .store 7 (.t 10) (.t 25)⟩])
                (.seq
                 (.reg [⟨some 26, none, .mov (.t 9)⟩,
                  ⟨some 27, none, .bin .gtr (.t 26) (.c (.int .i64 0))⟩,
                  ⟨some 28, none, .mov (.t 27)⟩,
                  ⟨some 29, some (28, true), .faddr 0 (.t 10)⟩,
                  ⟨some 30, some (28, true), .load 1 false (.t 29)⟩,
                  ⟨some 31, some (28, true), .mov (.t 8)⟩,
                  ⟨some 32, some (28, true), .bin .eql (.t 30) (.t 31)⟩,
                  ⟨some 33, none, .pick (.t 28) (.t 32) (.c (.bool false))⟩])
                 (.cond (.t 33)
                  (.reg [⟨some 34, none, .mov (.t 9)⟩,
                   ⟨some 35, none, .faddr 1 (.t 7)⟩,
                   ⟨none, none, .store 1 (.t 35) (.t 34)⟩])
                  .skip))))
              (.reg [⟨some 36, none, .bin .add (.t 22) (.c (.int .i64 1))⟩,
               ⟨some 22, none, .mov (.t 36)⟩]))))
def c36r0 : AC := (.seq
         (.reg [⟨some 38, none, .faddr 1 (.t 7)⟩,
          ⟨some 39, none, .load 1 false (.t 38)⟩,
          ⟨some 40, none, .call false 21 [(.t 39)]⟩,
          ⟨some 37, none, .mov (.t 40)⟩,
          ⟨some 41, none, .ext (.t 37) 0⟩,
          ⟨some 42, none, .ext (.t 37) 1⟩,
          ⟨some 11, none, .alloc [(.str []), (.bool false), (.bool false), (.bool false), (.bool false), (.int .i64 0), (.int .i64 0)]⟩,
          ⟨none, none, .store 7 (.t 11) (.t 41)⟩,
          ⟨some 12, none, .mov (.t 42)⟩])
         (.seq
          (.seq
           (.reg [⟨some 43, none, .mov (.t 12)⟩,
            ⟨some 44, none, .un .not (.t 43)⟩])
           (.cond (.t 44)
            (.seq
             (.reg [⟨some 45, none, .build [(.int .i64 0), (.int .i64 0), (.str []), (.int .i64 0), (.int .i64 0), .nilS] []⟩,
              ⟨none, none, .store 6 (.t 2) (.t 45)⟩,
              ⟨some 3, none, .mov (.c (.bool false))⟩])
             .ret)
            .skip))
          (.seq
           (.seq
            (.reg [⟨some 46, none, .faddr 1 (.t 11)⟩,
             ⟨some 47, none, .load 1 false (.t 46)⟩])
            (.cond (.t 47)
             (.reg [⟨some 48, none, .load 1 false (.t 5)⟩,
              ⟨some 49, none, .calldS (.t 48) []⟩,
              ⟨some 50, none, .faddr 2 (.t 7)⟩,
              ⟨none, none, .store 1 (.t 50) (.t 49)⟩])
             .skip))
           (.seq
            (.seq
             (.reg [⟨some 51, none, .faddr 2 (.t 11)⟩,
              ⟨some 52, none, .load 1 false (.t 51)⟩])
             (.cond (.t 52)
              (.reg [⟨some 53, none, .mov (.t 6)⟩,
               ⟨some 54, none, .calldS (.t 53) []⟩,
               ⟨some 55, none, .faddr 3 (.t 7)⟩,
               ⟨none, none, .store 1 (.t 55) (.t 54)⟩])
              .skip))
            (.seq
             (.seq
              (.reg [⟨some 56, none, .load 7 true (.t 11)⟩,
               ⟨some 57, none, .load 6 true (.t 7)⟩,
               ⟨some 58, none, .call false 30 [(.t 56), (.t 57)]⟩])
              (.cond (.t 58)
               (.reg [⟨some 59, none, .mov (.t 6)⟩,
                ⟨some 60, none, .calldS (.t 59) []⟩,
                ⟨some 61, none, .faddr 4 (.t 7)⟩,
                ⟨none, none, .store 1 (.t 61) (.t 60)⟩])
               .skip))
             (.seq
              (.seq
               (.reg [⟨some 62, none, .faddr 4 (.t 11)⟩,
                ⟨some 63, none, .load 1 false (.t 62)⟩])
               (.cond (.t 63)
                (.seq
                 (.reg [⟨some 64, none, .load 1 false (.t 5)⟩,
                  ⟨some 65, none, .calldS (.t 64) []⟩,
                  ⟨some 13, none, .mov (.t 65)⟩])
                 (.seq
                  (.reg [⟨some 66, none, .mov (.t 13)⟩,
                   ⟨some 67, none, .bin .neq (.t 66) (.c (.str [59]))⟩])
                  (.cond (.t 67)
                   (.reg [⟨some 68, none, .mov (.t 13)⟩,
                    ⟨some 69, none, .call false 37 [(.t 68), (.c (.str [59]))]⟩,
                    ⟨some 70, none, .faddr 5 (.t 7)⟩,
                    ⟨none, none, .store 1 (.t 70) (.t 69)⟩])
                   .skip)))
                .skip))
              (.seq
               (.reg [⟨some 71, none, .load 6 true (.t 7)⟩,
                ⟨none, none, .store 6 (.t 2) (.t 71)⟩,
                ⟨some 3, none, .mov (.c (.bool true))⟩])
               .ret)))))))
/-- tracebook/event.read -/
def c36 : AFn := ⟨1, 72, [.c 2 6 true, .t 3],
 (.seq
  (.reg [⟨some 1, none, .box (.t 0)⟩,
   ⟨some 2, none, .alloc [(.int .i64 0), (.int .i64 0), (.str []), (.int .i64 0), (.int .i64 0), .nilS]⟩,
   ⟨some 3, none, .mov (.c (.bool false))⟩])
  (.seq
   (.reg [⟨some 4, none, .alloc [(.int .i64 0)]⟩,
    ⟨none, none, .store 1 (.t 4) (.c (.int .i64 0))⟩])
   (.seq
    (.reg [⟨some 14, none, .mkfn 49 [(.t 4), (.t 1)]⟩,
     ⟨some 5, none, .alloc [(.v .nilFunc)]⟩,
     ⟨none, none, .store 1 (.t 5) (.t 14)⟩])
    (.seq
     (.reg [⟨some 15, none, .mkfn 50 [(.t 5)]⟩,
      ⟨some 6, none, .mov (.t 15)⟩])
     (.seq
      (.reg [⟨some 16, none, .mov (.t 6)⟩,
       ⟨some 17, none, .calldS (.t 16) []⟩,
       ⟨some 18, none, .build [(.int .i64 0), (.int .i64 0), (.str []), (.int .i64 0), (.int .i64 0), .nilS] [(0, 1, (.t 17))]⟩,
       ⟨some 7, none, .alloc [(.int .i64 0), (.int .i64 0), (.str []), (.int .i64 0), (.int .i64 0), .nilS]⟩,
       ⟨none, none, .store 6 (.t 7) (.t 18)⟩])
      (.seq
       (.reg [⟨some 19, none, .load 1 false (.t 5)⟩,
        ⟨some 20, none, .calldS (.t 19) []⟩,
        ⟨some 8, none, .mov (.t 20)⟩])
       (.seq
        (.seq
         (.reg [⟨some 21, none, .load 91 true (.c (gcells 0))⟩,
          ⟨some 22, none, .mov (.c (.int .i64 0))⟩])
         (.block 0
          (.loop [2, 5, 6, 7, 8, 21, 22]
           c36b0)))
        c36r0))))))), none⟩
def k36 : List (List Nat) := [[2, 5, 6, 7, 8, 21, 22]]
def o36 : List Nat := [8000000, 1000049, 1000050, 3000000]
/-- strings.Split -/
def c37 : AFn := ⟨2, 8, [.t 4],
 (.seq
  (.reg [⟨some 4, none, .nilv 1⟩])
  (.seq
   (.reg [⟨some 5, none, .mov (.t 0)⟩,
    ⟨some 6, none, .mov (.t 1)⟩,
    ⟨some 7, none, .call false 52 [(.t 5), (.t 6), (.c (.int .i64 0)), (.c (.int .i64 (-1)))]⟩,
    ⟨some 4, none, .mov (.t 7)⟩])
   .ret)), none⟩
def k37 : List (List Nat) := []
def o37 : List Nat := [1000049, 1000050, 3000000]
def c38b0 : AC := (.seq
        (.seq
         (.reg [⟨some 11, none, .mov (.t 5)⟩,
          ⟨some 12, none, .mov (.t 0)⟩,
          ⟨some 13, none, .len (.t 12)⟩,
          ⟨some 14, none, .bin .lss (.t 11) (.t 13)⟩])
         (.cond (.t 14)
          .skip
          (.exit 0)))
        (.seq
         (.block 1
          (.seq
           (.reg [⟨some 17, none, .mov (.t 0)⟩,
            ⟨some 18, none, .mov (.t 5)⟩,
            ⟨some 19, none, .iaddr (.slice 1) (.t 17) (.t 18)⟩,
            ⟨some 20, none, .load 1 false (.t 19)⟩,
            ⟨some 21, none, .mov (.t 1)⟩,
            ⟨some 22, none, .mov (.t 5)⟩,
            ⟨some 23, none, .iaddr (.slice 1) (.t 21) (.t 22)⟩,
            ⟨some 24, none, .load 1 false (.t 23)⟩,
            ⟨some 25, none, .bin .neq (.t 20) (.t 24)⟩])
           (.cond (.t 25)
            (.seq
             (.reg [⟨some 4, none, .mov (.c (.bool false))⟩])
             .ret)
            .skip)))
         (.reg [⟨some 15, none, .mov (.t 5)⟩,
          ⟨some 16, none, .bin .add (.t 15) (.c (.int .i64 1))⟩,
          ⟨some 5, none, .mov (.t 16)⟩])))
/-- tracebook/tracebookref07.Texts -/
def c38 : AFn := ⟨2, 26, [.t 4],
 (.seq
  (.reg [⟨some 4, none, .mov (.c (.bool false))⟩])
  (.seq
   (.seq
    (.reg [⟨some 6, none, .mov (.t 0)⟩,
     ⟨some 7, none, .len (.t 6)⟩,
     ⟨some 8, none, .mov (.t 1)⟩,
     ⟨some 9, none, .len (.t 8)⟩,
     ⟨some 10, none, .bin .neq (.t 7) (.t 9)⟩])
    (.cond (.t 10)
     (.seq
      (.reg [⟨some 4, none, .mov (.c (.bool false))⟩])
      .ret)
     .skip))
   (.seq
    (.seq
     (.reg [⟨some 5, none, .mov (.c (.int .i64 0))⟩])
     (.block 0
      (.loop [0, 1, 5]
       c38b0)))
    (.seq
     (.reg [⟨some 4, none, .mov (.c (.bool true))⟩])
     .ret)))), none⟩
def k38 : List (List Nat) := [[0, 1, 5]]
def o38 : List Nat := [1000049, 1000050, 3000000]
def c39b0 : AC := (.seq
         (.seq
          (.reg [⟨some 25, none, .mov (.t 6)⟩,
           ⟨some 26, none, .bin .leq (.t 25) (.c (.int .i64 12))⟩])
          (.cond (.t 26)
           .skip
           (.exit 0)))
         (.seq
          (.block 1
           (.seq
            (.reg [⟨some 29, none, .mov (.t 0)⟩,
             ⟨some 30, none, .len (.t 29)⟩,
             ⟨some 31, none, .bin .gtr (.t 30) (.c (.int .i64 1))⟩,
             ⟨some 32, none, .mov (.t 31)⟩,
             ⟨some 33, some (32, true), .mov (.t 6)⟩,
             ⟨some 34, some (32, true), .call false 34 [(.t 33)]⟩,
             ⟨some 35, some (32, true), .mov (.t 0)⟩,
             ⟨some 36, some (32, true), .iaddr (.slice 1) (.t 35) (.c (.int .i64 1))⟩,
             ⟨some 37, some (32, true), .load 1 false (.t 36)⟩,
             ⟨some 38, some (32, true), .bin .eql (.t 34) (.t 37)⟩,
             ⟨some 39, none, .pick (.t 32) (.t 38) (.c (.bool false))⟩])
            (.cond (.t 39)
             (.reg [⟨some 40, none, .mov (.t 6)⟩,
              ⟨some 41, none, .faddr 1 (.t 5)⟩,
              ⟨none, none, .store 1 (.t 41) (.t 40)⟩])
             .skip)))
          (.reg [⟨some 27, none, .mov (.t 6)⟩,
           ⟨some 28, none, .bin .add (.t 27) (.c (.int .i64 1))⟩,
           ⟨some 6, none, .mov (.t 28)⟩])))
def c39r0 : AC := (.seq
      (.reg [⟨some 43, none, .faddr 1 (.t 5)⟩,
       ⟨some 44, none, .load 1 false (.t 43)⟩,
       ⟨some 45, none, .call false 25 [(.t 44)]⟩,
       ⟨some 42, none, .mov (.t 45)⟩,
       ⟨some 46, none, .ext (.t 42) 0⟩,
       ⟨some 47, none, .ext (.t 42) 1⟩,
       ⟨some 48, none, .ext (.t 42) 2⟩,
       ⟨some 49, none, .ext (.t 42) 3⟩,
       ⟨some 7, none, .mov (.t 46)⟩,
       ⟨some 8, none, .mov (.t 47)⟩,
       ⟨some 9, none, .mov (.t 48)⟩,
       ⟨some 10, none, .mov (.t 49)⟩])
      (.seq
       (.reg [⟨some 11, none, .mov (.c (.int .i64 2))⟩])
       (.seq
        (.seq
         (.reg [⟨some 50, none, .mov (.t 7)⟩,
          ⟨some 51, none, .mov (.t 50)⟩,
          ⟨some 52, some (51, true), .mov (.t 11)⟩,
          ⟨some 53, some (51, true), .mov (.t 0)⟩,
          ⟨some 54, some (51, true), .len (.t 53)⟩,
          ⟨some 55, some (51, true), .bin .lss (.t 52) (.t 54)⟩,
          ⟨some 56, none, .pick (.t 51) (.t 55) (.c (.bool false))⟩])
         (.cond (.t 56)
          (.seq
           (.reg [⟨some 57, none, .mov (.t 0)⟩,
            ⟨some 58, none, .mov (.t 11)⟩,
            ⟨some 59, none, .iaddr (.slice 1) (.t 57) (.t 58)⟩,
            ⟨some 60, none, .load 1 false (.t 59)⟩,
            ⟨some 61, none, .faddr 2 (.t 5)⟩,
            ⟨none, none, .store 1 (.t 61) (.t 60)⟩])
           (.reg [⟨some 62, none, .mov (.t 11)⟩,
            ⟨some 63, none, .bin .add (.t 62) (.c (.int .i64 1))⟩,
            ⟨some 11, none, .mov (.t 63)⟩]))
          .skip))
        (.seq
         (.seq
          (.reg [⟨some 64, none, .mov (.t 8)⟩,
           ⟨some 65, none, .mov (.t 64)⟩,
           ⟨some 66, some (65, true), .mov (.t 11)⟩,
           ⟨some 67, some (65, true), .mov (.t 0)⟩,
           ⟨some 68, some (65, true), .len (.t 67)⟩,
           ⟨some 69, some (65, true), .bin .lss (.t 66) (.t 68)⟩,
           ⟨some 70, none, .pick (.t 65) (.t 69) (.c (.bool false))⟩])
          (.cond (.t 70)
           (.seq
            (.reg [⟨some 72, none, .mov (.t 0)⟩,
             ⟨some 73, none, .mov (.t 11)⟩,
             ⟨some 74, none, .iaddr (.slice 1) (.t 72) (.t 73)⟩,
             ⟨some 75, none, .load 1 false (.t 74)⟩,
             ⟨some 76, none, .call false 53 [(.t 75)]⟩,
             ⟨some 71, none, .mov (.t 76)⟩,
             ⟨some 77, none, .ext (.t 71) 0⟩,
             ⟨some 78, none, .ext (.t 71) 1⟩,
             ⟨some 12, none, .mov (.t 77)⟩,
             ⟨some 13, none, .mov (.t 78)⟩])
            (.seq
             (.reg [⟨some 79, none, .mov (.t 12)⟩,
              ⟨some 80, none, .faddr 3 (.t 5)⟩,
              ⟨none, none, .store 1 (.t 80) (.t 79)⟩])
             (.reg [⟨some 81, none, .mov (.t 11)⟩,
              ⟨some 82, none, .bin .add (.t 81) (.c (.int .i64 1))⟩,
              ⟨some 11, none, .mov (.t 82)⟩])))
           .skip))
         (.seq
          (.seq
           (.reg [⟨some 83, none, .mov (.t 9)⟩,
            ⟨some 84, none, .mov (.t 83)⟩,
            ⟨some 85, some (84, true), .mov (.t 11)⟩,
            ⟨some 86, some (84, true), .mov (.t 0)⟩,
            ⟨some 87, some (84, true), .len (.t 86)⟩,
            ⟨some 88, some (84, true), .bin .lss (.t 85) (.t 87)⟩,
            ⟨some 89, none, .pick (.t 84) (.t 88) (.c (.bool false))⟩])
           (.cond (.t 89)
            (.seq
             (.reg [⟨some 91, none, .mov (.t 0)⟩,
              ⟨some 92, none, .mov (.t 11)⟩,
              ⟨some 93, none, .iaddr (.slice 1) (.t 91) (.t 92)⟩,
              ⟨some 94, none, .load 1 false (.t 93)⟩,
              ⟨some 95, none, .call false 53 [(.t 94)]⟩,
              ⟨some 90, none, .mov (.t 95)⟩,
              ⟨some 96, none, .ext (.t 90) 0⟩,
              ⟨some 97, none, .ext (.t 90) 1⟩,
              ⟨some 14, none, .mov (.t 96)⟩,
              ⟨some 15, none, .mov (.t 97)⟩])
             (.seq
              (.reg [⟨some 98, none, .mov (.t 14)⟩,
               ⟨some 99, none, .faddr 4 (.t 5)⟩,
               ⟨none, none, .store 1 (.t 99) (.t 98)⟩])
              (.reg [⟨some 100, none, .mov (.t 11)⟩,
               ⟨some 101, none, .bin .add (.t 100) (.c (.int .i64 1))⟩,
               ⟨some 11, none, .mov (.t 101)⟩])))
            .skip))
          (.seq
           (.seq
            (.reg [⟨some 102, none, .mov (.t 10)⟩,
             ⟨some 103, none, .mov (.t 102)⟩,
             ⟨some 104, some (103, true), .mov (.t 11)⟩,
             ⟨some 105, some (103, true), .mov (.t 0)⟩,
             ⟨some 106, some (103, true), .len (.t 105)⟩,
             ⟨some 107, some (103, true), .bin .lss (.t 104) (.t 106)⟩,
             ⟨some 108, none, .pick (.t 103) (.t 107) (.c (.bool false))⟩,
             ⟨some 109, none, .mov (.t 108)⟩,
             ⟨some 110, some (109, true), .mov (.t 0)⟩,
             ⟨some 111, some (109, true), .mov (.t 11)⟩,
             ⟨some 112, some (109, true), .iaddr (.slice 1) (.t 110) (.t 111)⟩,
             ⟨some 113, some (109, true), .load 1 false (.t 112)⟩,
             ⟨some 114, some (109, true), .bin .neq (.t 113) (.c (.str [59]))⟩,
             ⟨some 115, none, .pick (.t 109) (.t 114) (.c (.bool false))⟩])
            (.cond (.t 115)
             (.reg [⟨some 116, none, .mov (.t 0)⟩,
              ⟨some 117, none, .mov (.t 11)⟩,
              ⟨some 118, none, .iaddr (.slice 1) (.t 116) (.t 117)⟩,
              ⟨some 119, none, .load 1 false (.t 118)⟩,
              ⟨some 120, none, .call false 40 [(.t 119), (.c (.int .u8 59))]⟩,
              ⟨some 121, none, .faddr 5 (.t 5)⟩,
              ⟨none, none, .store 1 (.t 121) (.t 120)⟩])
             .skip))
           (.seq
            (.reg [⟨some 122, none, .load 6 true (.t 5)⟩,
             ⟨none, none, .store 6 (.t 2) (.t 122)⟩])
            .ret)))))))
/-- tracebook/tracebookref07.read -/
def c39 : AFn := ⟨1, 123, [.c 2 6 true],
 (.seq
  (.reg [⟨some 2, none, .alloc [(.int .i64 0), (.int .i64 0), (.str []), (.int .i64 0), (.int .i64 0), .nilS]⟩])
  (.seq
   (.reg [⟨some 17, none, .mov (.t 0)⟩,
    ⟨some 18, none, .iaddr (.slice 1) (.t 17) (.c (.int .i64 0))⟩,
    ⟨some 19, none, .load 1 false (.t 18)⟩,
    ⟨some 20, none, .call false 53 [(.t 19)]⟩,
    ⟨some 16, none, .mov (.t 20)⟩,
    ⟨some 21, none, .ext (.t 16) 0⟩,
    ⟨some 22, none, .ext (.t 16) 1⟩,
    ⟨some 3, none, .mov (.t 21)⟩,
    ⟨some 4, none, .mov (.t 22)⟩])
   (.seq
    (.reg [⟨some 23, none, .mov (.t 3)⟩,
     ⟨some 24, none, .build [(.int .i64 0), (.int .i64 0), (.str []), (.int .i64 0), (.int .i64 0), .nilS] [(0, 1, (.t 23))]⟩,
     ⟨some 5, none, .alloc [(.int .i64 0), (.int .i64 0), (.str []), (.int .i64 0), (.int .i64 0), .nilS]⟩,
     ⟨none, none, .store 6 (.t 5) (.t 24)⟩])
    (.seq
     (.seq
      (.reg [⟨some 6, none, .mov (.c (.int .i64 1))⟩])
      (.block 0
       (.loop [0, 2, 5, 6]
        c39b0)))
     c39r0)))), none⟩
def k39 : List (List Nat) := [[0, 2, 5, 6]]
def o39 : List Nat := [1000049, 1000050, 3000000]
def c40b0 : AC := (.seq
        (.seq
         (.reg [⟨some 8, none, .mov (.t 6)⟩,
          ⟨some 9, none, .mov (.t 0)⟩,
          ⟨some 10, none, .lenS (.t 9)⟩,
          ⟨some 11, none, .bin .lss (.t 8) (.t 10)⟩])
         (.cond (.t 11)
          .skip
          (.exit 0)))
        (.seq
         (.block 1
          (.seq
           (.reg [⟨some 14, none, .mov (.t 0)⟩,
            ⟨some 15, none, .mov (.t 6)⟩,
            ⟨some 16, none, .idxS (.t 14) (.t 15)⟩,
            ⟨some 17, none, .mov (.t 1)⟩,
            ⟨some 18, none, .bin .eql (.t 16) (.t 17)⟩])
           (.cond (.t 18)
            (.reg [⟨some 19, none, .mov (.t 5)⟩,
             ⟨some 20, none, .bslice false 1 [(.str [])] 1 [(0, (.c (.str [])))]⟩,
             ⟨some 21, none, .append 1 16 (.t 19) (.t 20)⟩,
             ⟨some 5, none, .mov (.t 21)⟩])
            (.reg [⟨some 22, none, .mov (.t 5)⟩,
             ⟨some 23, none, .mov (.t 5)⟩,
             ⟨some 24, none, .len (.t 23)⟩,
             ⟨some 25, none, .bin .sub (.t 24) (.c (.int .i64 1))⟩,
             ⟨some 26, none, .mov (.t 5)⟩,
             ⟨some 27, none, .mov (.t 5)⟩,
             ⟨some 28, none, .len (.t 27)⟩,
             ⟨some 29, none, .bin .sub (.t 28) (.c (.int .i64 1))⟩,
             ⟨some 30, none, .iaddr (.slice 1) (.t 26) (.t 29)⟩,
             ⟨some 31, none, .load 1 false (.t 30)⟩,
             ⟨some 32, none, .mov (.t 0)⟩,
             ⟨some 33, none, .mov (.t 6)⟩,
             ⟨some 34, none, .mov (.t 6)⟩,
             ⟨some 35, none, .bin .add (.t 34) (.c (.int .i64 1))⟩,
             ⟨some 36, none, .slc .string (.t 32) (some (.t 33)) (some (.t 35)) none⟩,
             ⟨some 37, none, .bin .add (.t 31) (.t 36)⟩,
             ⟨some 38, none, .iaddr (.slice 1) (.t 22) (.t 25)⟩,
             ⟨none, none, .store 1 (.t 38) (.t 37)⟩]))))
         (.reg [⟨some 12, none, .mov (.t 6)⟩,
          ⟨some 13, none, .bin .add (.t 12) (.c (.int .i64 1))⟩,
          ⟨some 6, none, .mov (.t 13)⟩])))
/-- tracebook/tracebookref07.Cut -/
def c40 : AFn := ⟨2, 40, [.t 4],
 (.seq
  (.reg [⟨some 4, none, .nilv 1⟩])
  (.seq
   (.reg [⟨some 7, none, .bslice true 1 [(.str [])] 1 [(0, (.c (.str [])))]⟩,
    ⟨some 5, none, .mov (.t 7)⟩])
   (.seq
    (.seq
     (.reg [⟨some 6, none, .mov (.c (.int .i64 0))⟩])
     (.block 0
      (.loop [0, 1, 5, 6]
       c40b0)))
    (.seq
     (.reg [⟨some 39, none, .mov (.t 5)⟩,
      ⟨some 4, none, .mov (.t 39)⟩])
     .ret)))), none⟩
def k40 : List (List Nat) := [[0, 1, 5, 6]]
def o40 : List Nat := [1000049, 1000050, 3000000, 7]
def c41b0 : AC := (.seq
        (.reg [⟨some 14, none, .bin .lss (.t 13) (.t 12)⟩])
        (.seq
         (.cond (.t 14)
          .skip
          (.exit 0))
         (.seq
          (.block 1
           (.seq
            (.reg [⟨some 15, none, .mov (.t 13)⟩,
             ⟨some 5, none, .mov (.t 15)⟩])
            (.seq
             (.reg [⟨some 16, none, .mov (.t 0)⟩,
              ⟨some 17, none, .mov (.t 5)⟩,
              ⟨some 18, none, .iaddr (.slice 1) (.t 16) (.t 17)⟩,
              ⟨some 19, none, .load 1 false (.t 18)⟩,
              ⟨some 20, none, .mov (.t 1)⟩,
              ⟨some 21, none, .mov (.t 5)⟩,
              ⟨some 22, none, .iaddr (.slice 1) (.t 20) (.t 21)⟩,
              ⟨some 23, none, .load 1 false (.t 22)⟩,
              ⟨some 24, none, .bin .neq (.t 19) (.t 23)⟩])
             (.cond (.t 24)
              (.seq
               (.reg [⟨some 4, none, .mov (.c (.bool false))⟩])
               .ret)
              .skip))))
          (.reg [⟨some 25, none, .bin .add (.t 13) (.c (.int .i64 1))⟩,
           ⟨some 13, none, .mov (.t 25)⟩]))))
/-- slices.Equal[[]string,string] -/
def c41 : AFn := ⟨2, 26, [.t 4],
 (.seq
  (.reg [⟨some 4, none, .mov (.c (.bool false))⟩])
  (.seq
   (.seq
    (.reg [⟨some 6, none, .mov (.t 0)⟩,
     ⟨some 7, none, .len (.t 6)⟩,
     ⟨some 8, none, .mov (.t 1)⟩,
     ⟨some 9, none, .len (.t 8)⟩,
     ⟨some 10, none, .bin .neq (.t 7) (.t 9)⟩])
    (.cond (.t 10)
     (.seq
      (.reg [⟨some 4, none, .mov (.c (.bool false))⟩])
      .ret)
     .skip))
   (.seq
    (.seq
     (.reg [⟨some 11, none, .mov (.t 0)⟩,
      ⟨some 12, none, .len (.t 11)⟩,
      ⟨some 13, none, .mov (.c (.int .i64 0))⟩])
     (.block 0
      (.loop [0, 1, 12, 13]
       c41b0)))
    (.seq
     (.reg [⟨some 4, none, .mov (.c (.bool true))⟩])
     .ret)))), none⟩
def k41 : List (List Nat) := [[0, 1, 12, 13]]
def o41 : List Nat := [1000049, 1000050, 3000000]
/-- tracebook/intern.isNameByte -/
def c42 : AFn := ⟨1, 34, [.t 2],
 (.seq
  (.reg [⟨some 2, none, .mov (.c (.bool false))⟩])
  (.seq
   (.block 0
    (.seq
     (.seq
      (.reg [⟨some 4, none, .mov (.t 0)⟩,
       ⟨some 5, none, .bin .leq (.c (.int .u8 97)) (.t 4)⟩,
       ⟨some 6, none, .mov (.t 5)⟩,
       ⟨some 7, some (6, true), .mov (.t 0)⟩,
       ⟨some 8, some (6, true), .bin .leq (.t 7) (.c (.int .u8 122))⟩,
       ⟨some 9, none, .pick (.t 6) (.t 8) (.c (.bool false))⟩,
       ⟨some 3, none, .mov (.t 9)⟩])
      (.cond (.t 3)
       .skip
       (.seq
        (.reg [⟨some 10, none, .mov (.t 0)⟩,
         ⟨some 11, none, .bin .leq (.c (.int .u8 65)) (.t 10)⟩,
         ⟨some 12, none, .mov (.t 11)⟩,
         ⟨some 13, some (12, true), .mov (.t 0)⟩,
         ⟨some 14, some (12, true), .bin .leq (.t 13) (.c (.int .u8 90))⟩,
         ⟨some 15, none, .pick (.t 12) (.t 14) (.c (.bool false))⟩,
         ⟨some 3, none, .mov (.t 15)⟩])
        (.cond (.t 3)
         .skip
         (.reg [⟨some 16, none, .mov (.t 0)⟩,
          ⟨some 17, none, .bin .leq (.c (.int .u8 48)) (.t 16)⟩,
          ⟨some 18, none, .mov (.t 17)⟩,
          ⟨some 19, some (18, true), .mov (.t 0)⟩,
          ⟨some 20, some (18, true), .bin .leq (.t 19) (.c (.int .u8 57))⟩,
          ⟨some 21, none, .pick (.t 18) (.t 20) (.c (.bool false))⟩,
          ⟨some 3, none, .mov (.t 21)⟩])))))
     (.cond (.t 3)
      (.seq
       (.reg [⟨some 2, none, .mov (.c (.bool true))⟩])
       .ret)
      .skip)))
   (.seq
    (.seq
     (.reg [⟨some 22, none, .mov (.t 0)⟩])
     (.block 1
      (.seq
       (.seq
        (.reg [⟨some 24, none, .bin .eql (.t 22) (.c (.int .u8 95))⟩,
         ⟨some 23, none, .mov (.t 24)⟩])
        (.cond (.t 23)
         .skip
         (.seq
          (.reg [⟨some 25, none, .bin .eql (.t 22) (.c (.int .u8 46))⟩,
           ⟨some 23, none, .mov (.t 25)⟩])
          (.cond (.t 23)
           .skip
           (.seq
            (.reg [⟨some 26, none, .bin .eql (.t 22) (.c (.int .u8 58))⟩,
             ⟨some 23, none, .mov (.t 26)⟩])
            (.cond (.t 23)
             .skip
             (.seq
              (.reg [⟨some 27, none, .bin .eql (.t 22) (.c (.int .u8 47))⟩,
               ⟨some 23, none, .mov (.t 27)⟩])
              (.cond (.t 23)
               .skip
               (.seq
                (.reg [⟨some 28, none, .bin .eql (.t 22) (.c (.int .u8 60))⟩,
                 ⟨some 23, none, .mov (.t 28)⟩])
                (.cond (.t 23)
                 .skip
                 (.seq
                  (.reg [⟨some 29, none, .bin .eql (.t 22) (.c (.int .u8 62))⟩,
                   ⟨some 23, none, .mov (.t 29)⟩])
                  (.cond (.t 23)
                   .skip
                   (.seq
                    (.reg [⟨some 30, none, .bin .eql (.t 22) (.c (.int .u8 36))⟩,
                     ⟨some 23, none, .mov (.t 30)⟩])
                    (.cond (.t 23)
                     .skip
                     (.seq
                      (.reg [⟨some 31, none, .bin .eql (.t 22) (.c (.int .u8 42))⟩,
                       ⟨some 23, none, .mov (.t 31)⟩])
                      (.cond (.t 23)
                       .skip
                       (.seq
                        (.reg [⟨some 32, none, .bin .eql (.t 22) (.c (.int .u8 126))⟩,
                         ⟨some 23, none, .mov (.t 32)⟩])
                        (.cond (.t 23)
                         .skip
                         (.reg [⟨some 33, none, .bin .eql (.t 22) (.c (.int .u8 45))⟩,
                          ⟨some 23, none, .mov (.t 33)⟩])))))))))))))))))))
       (.cond (.t 23)
        (.seq
         (.reg [⟨some 2, none, .mov (.c (.bool true))⟩])
         .ret)
        .skip))))
    (.seq
     (.reg [⟨some 2, none, .mov (.c (.bool false))⟩])
     .ret)))), none⟩
def k42 : List (List Nat) := []
def o42 : List Nat := [1000049, 1000050, 3000000]
def c43b0 : AC := (.seq
         (.seq
          (.reg [⟨some 27, none, .mov (.t 4)⟩,
           ⟨some 28, none, .mov (.t 3)⟩,
           ⟨some 29, none, .lenS (.t 28)⟩,
           ⟨some 30, none, .bin .lss (.t 27) (.t 29)⟩])
          (.cond (.t 30)
           .skip
           (.exit 0)))
         (.seq
          (.block 1
           (.seq
            (.reg [⟨some 33, none, .mov (.t 3)⟩,
             ⟨some 34, none, .mov (.t 4)⟩,
             ⟨some 35, none, .idxS (.t 33) (.t 34)⟩,
             ⟨some 36, none, .mov (.t 0)⟩,
             ⟨some 37, none, .bin .eql (.t 35) (.t 36)⟩])
            (.cond (.t 37)
             (.seq
              (.reg [⟨some 2, none, .mov (.c (.bool true))⟩])
              .ret)
             .skip)))
          (.reg [⟨some 31, none, .mov (.t 4)⟩,
           ⟨some 32, none, .bin .add (.t 31) (.c (.int .i64 1))⟩,
           ⟨some 4, none, .mov (.t 32)⟩])))
/-- tracebook/tracebookref06.letter -/
def c43 : AFn := ⟨1, 38, [.t 2],
 (.seq
  (.reg [⟨some 2, none, .mov (.c (.bool false))⟩])
  (.seq
   (.seq
    (.reg [⟨some 5, none, .mov (.t 0)⟩,
     ⟨some 6, none, .bin .geq (.t 5) (.c (.int .u8 97))⟩,
     ⟨some 7, none, .mov (.t 6)⟩,
     ⟨some 8, some (7, true), .mov (.t 0)⟩,
     ⟨some 9, some (7, true), .bin .leq (.t 8) (.c (.int .u8 122))⟩,
     ⟨some 10, none, .pick (.t 7) (.t 9) (.c (.bool false))⟩,
     ⟨some 11, none, .mov (.t 10)⟩,
     ⟨some 12, some (11, false), .mov (.t 0)⟩,
     ⟨some 13, some (11, false), .bin .geq (.t 12) (.c (.int .u8 65))⟩,
     ⟨some 14, some (11, false), .mov (.t 13)⟩,
     ⟨some 15, some (14, true), .mov (.t 0)⟩,
     ⟨some 16, some (14, true), .bin .leq (.t 15) (.c (.int .u8 90))⟩,
     ⟨some 17, some (11, false), .pick (.t 14) (.t 16) (.c (.bool false))⟩,
     ⟨some 18, none, .pick (.t 11) (.c (.bool true)) (.t 17)⟩,
     ⟨some 19, none, .mov (.t 18)⟩,
     ⟨some 20, some (19, false), .mov (.t 0)⟩,
     ⟨some 21, some (19, false), .bin .geq (.t 20) (.c (.int .u8 48))⟩,
     ⟨some 22, some (19, false), .mov (.t 21)⟩,
     ⟨some 23, some (22, true), .mov (.t 0)⟩,
     ⟨some 24, some (22, true), .bin .leq (.t 23) (.c (.int .u8 57))⟩,
     ⟨some 25, some (19, false), .pick (.t 22) (.t 24) (.c (.bool false))⟩,
     ⟨some 26, none, .pick (.t 19) (.c (.bool true)) (.t 25)⟩])
    (.cond (.t 26)
     (.seq
      (.reg [⟨some 2, none, .mov (.c (.bool true))⟩])
      .ret)
     .skip))
   (.seq
    (.reg [⟨some 3, none, .mov (.c (.str [95, 46, 58, 47, 60, 62, 36, 42, 126, 45]))⟩])
    (.seq
     (.seq
      (.reg [⟨some 4, none, .mov (.c (.int .i64 0))⟩])
      (.block 0
       (.loop [0, 3, 4]
        c43b0)))
     (.seq
      (.reg [⟨some 2, none, .mov (.c (.bool false))⟩])
      .ret))))), none⟩
def k43 : List (List Nat) := [[0, 3, 4]]
def o43 : List Nat := [1000049, 1000050, 3000000]
/-- tracebook/tracebookref07.within -/
def c44 : AFn := ⟨3, 15, [.t 6],
 (.seq
  (.reg [⟨some 6, none, .mov (.c (.int .i64 0))⟩])
  (.seq
   (.seq
    (.reg [⟨some 7, none, .mov (.t 0)⟩,
     ⟨some 8, none, .mov (.t 1)⟩,
     ⟨some 9, none, .bin .lss (.t 7) (.t 8)⟩,
     ⟨some 10, none, .mov (.t 9)⟩,
     ⟨some 11, some (10, false), .mov (.t 0)⟩,
     ⟨some 12, some (10, false), .mov (.t 2)⟩,
     ⟨some 13, some (10, false), .bin .gtr (.t 11) (.t 12)⟩,
     ⟨some 14, none, .pick (.t 10) (.c (.bool true)) (.t 13)⟩])
    (.cond (.t 14)
     (.seq
      (.reg [⟨some 6, none, .mov (.c (.int .i64 2))⟩])
      .ret)
     .skip))
   (.seq
    (.reg [⟨some 6, none, .mov (.c (.int .i64 0))⟩])
    .ret))), none⟩
def k44 : List (List Nat) := []
def o44 : List Nat := [1000049, 1000050, 3000000]
/-- strconv.Itoa -/
def c45 : AFn := ⟨1, 0, [], .skip, some (.p xItoa)⟩
/-- (*strings.Builder).Grow -/
def c46 : AFn := ⟨2, 25, [],
 (.seq
  (.reg [⟨some 4, none, .mov (.t 0)⟩,
   ⟨some 5, none, .call false 55 [(.t 4)]⟩])
  (.seq
   (.seq
    (.reg [⟨some 6, none, .mov (.t 1)⟩,
     ⟨some 7, none, .bin .lss (.t 6) (.c (.int .i64 0))⟩])
    (.cond (.t 7)
     .stuck
     .skip))
   (.seq
    (.reg [⟨some 9, none, .mov (.t 0)⟩,
     ⟨some 10, none, .nilck (.t 9)⟩,
     ⟨some 11, none, .faddr 1 (.t 10)⟩,
     ⟨some 12, none, .load 1 false (.t 11)⟩,
     ⟨some 13, none, .capN (.t 12)⟩,
     ⟨some 14, none, .mov (.t 0)⟩,
     ⟨some 15, none, .nilck (.t 14)⟩,
     ⟨some 16, none, .faddr 1 (.t 15)⟩,
     ⟨some 17, none, .load 1 false (.t 16)⟩,
     ⟨some 18, none, .len (.t 17)⟩,
     ⟨some 19, none, .bin .sub (.t 13) (.t 18)⟩,
     ⟨some 20, none, .mov (.t 1)⟩,
     ⟨some 21, none, .bin .lss (.t 19) (.t 20)⟩])
    (.cond (.t 21)
     (.reg [⟨some 22, none, .mov (.t 0)⟩,
      ⟨some 23, none, .mov (.t 1)⟩,
      ⟨some 24, none, .call false 56 [(.t 22), (.t 23)]⟩])
     .skip)))), none⟩
def k46 : List (List Nat) := []
def o46 : List Nat := [1000049, 1000050, 3000000]
/-- (*strings.Builder).WriteString -/
def c47 : AFn := ⟨2, 19, [.t 4, .t 5],
 (.seq
  (.reg [⟨some 4, none, .mov (.c (.int .i64 0))⟩,
   ⟨some 5, none, .mov (.c (.v .nilIface))⟩])
  (.seq
   (.reg [⟨some 6, none, .mov (.t 0)⟩,
    ⟨some 7, none, .call false 55 [(.t 6)]⟩])
   (.seq
    (.reg [⟨some 8, none, .mov (.t 0)⟩,
     ⟨some 9, none, .mov (.t 0)⟩,
     ⟨some 10, none, .nilck (.t 9)⟩,
     ⟨some 11, none, .faddr 1 (.t 10)⟩,
     ⟨some 12, none, .load 1 false (.t 11)⟩,
     ⟨some 13, none, .mov (.t 1)⟩,
     ⟨some 14, none, .append 1 1 (.t 12) (.t 13)⟩,
     ⟨some 15, none, .nilck (.t 8)⟩,
     ⟨some 16, none, .faddr 1 (.t 15)⟩,
     ⟨none, none, .store 1 (.t 16) (.t 14)⟩])
    (.seq
     (.reg [⟨some 17, none, .mov (.t 1)⟩,
      ⟨some 18, none, .lenS (.t 17)⟩,
      ⟨some 4, none, .mov (.t 18)⟩,
      ⟨some 5, none, .mov (.c (.v .nilIface))⟩])
     .ret)))), none⟩
def k47 : List (List Nat) := []
def o47 : List Nat := [1000049, 1000050, 3000000]
/-- (*strings.Builder).String -/
def c48 : AFn := ⟨1, 14, [.t 2],
 (.seq
  (.reg [⟨some 2, none, .mov (.c (.str []))⟩])
  (.seq
   .stuck
   .ret)), none⟩
def k48 : List (List Nat) := []
def o48 : List Nat := [1000049, 1000050, 3000000]
/-- tracebook/event.read$1 -/
def c49 : AFn := ⟨2, 14, [.t 2],
 (.seq
  (.reg [⟨some 2, none, .mov (.c (.str []))⟩])
  (.seq
   (.reg [⟨some 3, none, .load 1 false (.t 0)⟩,
    ⟨some 4, none, .bin .add (.t 3) (.c (.int .i64 1))⟩,
    ⟨none, none, .store 1 (.t 0) (.t 4)⟩])
   (.seq
    (.seq
     (.reg [⟨some 5, none, .load 1 false (.t 0)⟩,
      ⟨some 6, none, .load 1 false (.t 1)⟩,
      ⟨some 7, none, .len (.t 6)⟩,
      ⟨some 8, none, .bin .gtr (.t 5) (.t 7)⟩])
     (.cond (.t 8)
      (.seq
       (.reg [⟨some 2, none, .mov (.c (.str []))⟩])
       .ret)
      .skip))
    (.seq
     (.reg [⟨some 9, none, .load 1 false (.t 1)⟩,
      ⟨some 10, none, .load 1 false (.t 0)⟩,
      ⟨some 11, none, .bin .sub (.t 10) (.c (.int .i64 1))⟩,
      ⟨some 12, none, .iaddr (.slice 1) (.t 9) (.t 11)⟩,
      ⟨some 13, none, .load 1 false (.t 12)⟩,
      ⟨some 2, none, .mov (.t 13)⟩])
     .ret)))), none⟩
def k49 : List (List Nat) := []
def o49 : List Nat := [1000049, 1000050, 3000000]
/-- tracebook/event.read$2 -/
def c50 : AFn := ⟨1, 11, [.t 1],
 (.seq
  (.reg [⟨some 1, none, .mov (.c (.int .i64 0))⟩])
  (.seq
   (.reg [⟨some 5, none, .load 1 false (.t 0)⟩,
    ⟨some 6, none, .calldS (.t 5) []⟩,
    ⟨some 7, none, .call false 51 [(.t 6)]⟩,
    ⟨some 4, none, .mov (.t 7)⟩,
    ⟨some 8, none, .ext (.t 4) 0⟩,
    ⟨some 9, none, .ext (.t 4) 1⟩,
    ⟨some 2, none, .mov (.t 8)⟩,
    ⟨some 3, none, .mov (.t 9)⟩])
   (.seq
    (.reg [⟨some 10, none, .mov (.t 2)⟩,
     ⟨some 1, none, .mov (.t 10)⟩])
    .ret))), none⟩
def k50 : List (List Nat) := []
def o50 : List Nat := [8000000, 1000049, 1000050, 3000000]
/-- tracebook/num.Parse -/
def c51 : AFn := ⟨1, 25, [.t 2, .t 3],
 (.seq
  (.reg [⟨some 2, none, .mov (.c (.int .i64 0))⟩,
   ⟨some 3, none, .mov (.c (.bool false))⟩])
  (.seq
   (.reg [⟨some 7, none, .mov (.t 0)⟩,
    ⟨some 8, none, .call false 57 [(.t 7)]⟩,
    ⟨some 6, none, .mov (.t 8)⟩,
    ⟨some 9, none, .ext (.t 6) 0⟩,
    ⟨some 10, none, .ext (.t 6) 1⟩,
    ⟨some 4, none, .mov (.t 9)⟩,
    ⟨some 5, none, .mov (.t 10)⟩])
   (.seq
    (.seq
     (.reg [⟨some 11, none, .mov (.t 5)⟩,
      ⟨some 12, none, .nilq false true (.t 11)⟩,
      ⟨some 13, none, .mov (.t 12)⟩,
      ⟨some 14, some (13, false), .mov (.t 4)⟩,
      ⟨some 15, some (13, false), .call false 58 [(.t 14)]⟩,
      ⟨some 16, some (13, false), .un .not (.t 15)⟩,
      ⟨some 17, none, .pick (.t 13) (.c (.bool true)) (.t 16)⟩,
      ⟨some 18, none, .mov (.t 17)⟩,
      ⟨some 19, some (18, false), .mov (.t 4)⟩,
      ⟨some 20, some (18, false), .call false 29 [(.t 19)]⟩,
      ⟨some 21, some (18, false), .mov (.t 0)⟩,
      ⟨some 22, some (18, false), .bin .neq (.t 20) (.t 21)⟩,
      ⟨some 23, none, .pick (.t 18) (.c (.bool true)) (.t 22)⟩])
     (.cond (.t 23)
      (.seq
       (.reg [⟨some 2, none, .mov (.c (.int .i64 0))⟩,
        ⟨some 3, none, .mov (.c (.bool false))⟩])
       .ret)
      .skip))
    (.seq
     (.reg [⟨some 24, none, .mov (.t 4)⟩,
      ⟨some 2, none, .mov (.t 24)⟩,
      ⟨some 3, none, .mov (.c (.bool true))⟩])
     .ret)))), none⟩
def k51 : List (List Nat) := []
def o51 : List Nat := [1000049, 1000050, 3000000]
def c52b0 : AC := (.seq
             (.seq
              (.reg [⟨some 34, none, .mov (.t 10)⟩,
               ⟨some 35, none, .mov (.t 3)⟩,
               ⟨some 36, none, .bin .lss (.t 34) (.t 35)⟩])
              (.cond (.t 36)
               .skip
               (.exit 0)))
             (.block 1
              (.seq
               (.reg [⟨some 37, none, .mov (.t 0)⟩,
                ⟨some 38, none, .mov (.t 1)⟩,
                ⟨some 39, none, .call false 61 [(.t 37), (.t 38)]⟩,
                ⟨some 11, none, .mov (.t 39)⟩])
               (.seq
                (.seq
                 (.reg [⟨some 40, none, .mov (.t 11)⟩,
                  ⟨some 41, none, .bin .lss (.t 40) (.c (.int .i64 0))⟩])
                 (.cond (.t 41)
                  (.exit 0)
                  .skip))
                (.seq
                 (.reg [⟨some 42, none, .mov (.t 9)⟩,
                  ⟨some 43, none, .mov (.t 10)⟩,
                  ⟨some 44, none, .mov (.t 0)⟩,
                  ⟨some 45, none, .mov (.t 11)⟩,
                  ⟨some 46, none, .mov (.t 2)⟩,
                  ⟨some 47, none, .bin .add (.t 45) (.t 46)⟩,
                  ⟨some 48, none, .slc .string (.t 44) none (some (.t 47)) none⟩,
                  ⟨some 49, none, .iaddr (.slice 1) (.t 42) (.t 43)⟩,
                  ⟨none, none, .store 1 (.t 49) (.t 48)⟩])
                 (.seq
                  (.reg [⟨some 50, none, .mov (.t 0)⟩,
                   ⟨some 51, none, .mov (.t 11)⟩,
                   ⟨some 52, none, .mov (.t 1)⟩,
                   ⟨some 53, none, .lenS (.t 52)⟩,
                   ⟨some 54, none, .bin .add (.t 51) (.t 53)⟩,
                   ⟨some 55, none, .slc .string (.t 50) (some (.t 54)) none none⟩,
                   ⟨some 0, none, .mov (.t 55)⟩])
                  (.reg [⟨some 56, none, .mov (.t 10)⟩,
                   ⟨some 57, none, .bin .add (.t 56) (.c (.int .i64 1))⟩,
                   ⟨some 10, none, .mov (.t 57)⟩])))))))
/-- strings.genSplit -/
def c52 : AFn := ⟨4, 66, [.t 8],
 (.seq
  (.reg [⟨some 8, none, .nilv 1⟩])
  (.seq
   (.seq
    (.reg [⟨some 12, none, .mov (.t 3)⟩,
     ⟨some 13, none, .bin .eql (.t 12) (.c (.int .i64 0))⟩])
    (.cond (.t 13)
     (.seq
      (.reg [⟨some 8, none, .nilv 1⟩])
      .ret)
     .skip))
   (.seq
    (.seq
     (.reg [⟨some 14, none, .mov (.t 1)⟩,
      ⟨some 15, none, .bin .eql (.t 14) (.c (.str []))⟩])
     (.cond (.t 15)
      (.seq
       (.reg [⟨some 16, none, .mov (.t 0)⟩,
        ⟨some 17, none, .mov (.t 3)⟩,
        ⟨some 18, none, .call false 59 [(.t 16), (.t 17)]⟩,
        ⟨some 8, none, .mov (.t 18)⟩])
       .ret)
      .skip))
    (.seq
     (.seq
      (.reg [⟨some 19, none, .mov (.t 3)⟩,
       ⟨some 20, none, .bin .lss (.t 19) (.c (.int .i64 0))⟩])
      (.cond (.t 20)
       (.reg [⟨some 21, none, .mov (.t 0)⟩,
        ⟨some 22, none, .mov (.t 1)⟩,
        ⟨some 23, none, .call false 60 [(.t 21), (.t 22)]⟩,
        ⟨some 24, none, .bin .add (.t 23) (.c (.int .i64 1))⟩,
        ⟨some 3, none, .mov (.t 24)⟩])
       .skip))
     (.seq
      (.reg [⟨some 25, none, .mov (.t 3)⟩,
       ⟨some 26, none, .mov (.t 0)⟩,
       ⟨some 27, none, .lenS (.t 26)⟩,
       ⟨some 28, none, .bin .add (.t 27) (.c (.int .i64 1))⟩,
       ⟨some 29, none, .min [(.t 25), (.t 28)]⟩,
       ⟨some 3, none, .mov (.t 29)⟩])
      (.seq
       (.reg [⟨some 30, none, .mov (.t 3)⟩,
        ⟨some 31, none, .make 1 16 [(.str [])] (.t 30) (.t 30)⟩,
        ⟨some 9, none, .mov (.t 31)⟩])
       (.seq
        (.reg [⟨some 32, none, .mov (.t 3)⟩,
         ⟨some 33, none, .bin .sub (.t 32) (.c (.int .i64 1))⟩,
         ⟨some 3, none, .mov (.t 33)⟩])
        (.seq
         (.reg [⟨some 10, none, .mov (.c (.int .i64 0))⟩])
         (.seq
          (.block 0
           (.loop [0, 1, 2, 3, 9, 10]
            c52b0))
          (.seq
           (.reg [⟨some 58, none, .mov (.t 9)⟩,
            ⟨some 59, none, .mov (.t 10)⟩,
            ⟨some 60, none, .mov (.t 0)⟩,
            ⟨some 61, none, .iaddr (.slice 1) (.t 58) (.t 59)⟩,
            ⟨none, none, .store 1 (.t 61) (.t 60)⟩])
           (.seq
            (.reg [⟨some 62, none, .mov (.t 9)⟩,
             ⟨some 63, none, .mov (.t 10)⟩,
             ⟨some 64, none, .bin .add (.t 63) (.c (.int .i64 1))⟩,
             ⟨some 65, none, .slc (.slice 1) (.t 62) none (some (.t 64)) none⟩,
             ⟨some 8, none, .mov (.t 65)⟩])
            .ret))))))))))), none⟩
def k52 : List (List Nat) := [[0, 1, 2, 3, 9, 10]]
def o52 : List Nat := [1000049, 1000050, 3000000, 31]
def c53b0 : AC := (.seq
         (.seq
          (.reg [⟨some 9, none, .mov (.t 5)⟩,
           ⟨some 10, none, .mov (.t 0)⟩,
           ⟨some 11, none, .lenS (.t 10)⟩,
           ⟨some 12, none, .bin .lss (.t 9) (.t 11)⟩])
          (.cond (.t 12)
           .skip
           (.exit 0)))
         (.seq
          (.block 1
           (.seq
            (.reg [⟨some 15, none, .mov (.t 0)⟩,
             ⟨some 16, none, .mov (.t 5)⟩,
             ⟨some 17, none, .idxS (.t 15) (.t 16)⟩,
             ⟨some 18, none, .bin .geq (.t 17) (.c (.int .u8 48))⟩,
             ⟨some 19, none, .mov (.t 18)⟩,
             ⟨some 20, some (19, true), .mov (.t 0)⟩,
             ⟨some 21, some (19, true), .mov (.t 5)⟩,
             ⟨some 22, some (19, true), .idxS (.t 20) (.t 21)⟩,
             ⟨some 23, some (19, true), .bin .leq (.t 22) (.c (.int .u8 57))⟩,
             ⟨some 24, none, .pick (.t 19) (.t 23) (.c (.bool false))⟩])
            (.cond (.t 24)
             (.reg [⟨some 25, none, .mov (.t 4)⟩,
              ⟨some 26, none, .bin .mul (.c (.int .i64 10)) (.t 25)⟩,
              ⟨some 27, none, .mov (.t 0)⟩,
              ⟨some 28, none, .mov (.t 5)⟩,
              ⟨some 29, none, .idxS (.t 27) (.t 28)⟩,
              ⟨some 30, none, .bin .sub (.t 29) (.c (.int .u8 48))⟩,
              ⟨some 31, none, .conv (.int .i64) (.t 30)⟩,
              ⟨some 32, none, .bin .add (.t 26) (.t 31)⟩,
              ⟨some 4, none, .mov (.t 32)⟩])
             .skip)))
          (.reg [⟨some 13, none, .mov (.t 5)⟩,
           ⟨some 14, none, .bin .add (.t 13) (.c (.int .i64 1))⟩,
           ⟨some 5, none, .mov (.t 14)⟩])))
def c53r0 : AC := (.seq
      (.seq
       (.reg [⟨some 33, none, .mov (.t 4)⟩,
        ⟨some 34, none, .call false 62 [(.t 33)]⟩,
        ⟨some 35, none, .mov (.t 34)⟩,
        ⟨some 36, some (35, true), .mov (.t 4)⟩,
        ⟨some 37, some (35, true), .call false 33 [(.t 36)]⟩,
        ⟨some 38, some (35, true), .mov (.t 0)⟩,
        ⟨some 39, some (35, true), .bin .eql (.t 37) (.t 38)⟩,
        ⟨some 40, none, .pick (.t 35) (.t 39) (.c (.bool false))⟩])
       (.cond (.t 40)
        (.seq
         (.reg [⟨some 41, none, .mov (.t 4)⟩,
          ⟨some 2, none, .mov (.t 41)⟩,
          ⟨some 3, none, .mov (.c (.bool true))⟩])
         .ret)
        .skip))
      (.seq
       (.seq
        (.reg [⟨some 42, none, .mov (.t 4)⟩,
         ⟨some 43, none, .call false 62 [(.t 42)]⟩,
         ⟨some 44, none, .mov (.t 43)⟩,
         ⟨some 45, some (44, true), .mov (.t 4)⟩,
         ⟨some 46, some (44, true), .un .neg (.t 45)⟩,
         ⟨some 47, some (44, true), .call false 33 [(.t 46)]⟩,
         ⟨some 48, some (44, true), .mov (.t 0)⟩,
         ⟨some 49, some (44, true), .bin .eql (.t 47) (.t 48)⟩,
         ⟨some 50, none, .pick (.t 44) (.t 49) (.c (.bool false))⟩])
        (.cond (.t 50)
         (.seq
          (.reg [⟨some 51, none, .mov (.t 4)⟩,
           ⟨some 52, none, .un .neg (.t 51)⟩,
           ⟨some 2, none, .mov (.t 52)⟩,
           ⟨some 3, none, .mov (.c (.bool true))⟩])
          .ret)
         .skip))
       (.seq
        (.reg [⟨some 2, none, .mov (.c (.int .i64 0))⟩,
         ⟨some 3, none, .mov (.c (.bool false))⟩])
        .ret)))
/-- tracebook/tracebookref01.Parse -/
def c53 : AFn := ⟨1, 53, [.t 2, .t 3],
 (.seq
  (.reg [⟨some 2, none, .mov (.c (.int .i64 0))⟩,
   ⟨some 3, none, .mov (.c (.bool false))⟩])
  (.seq
   (.seq
    (.reg [⟨some 6, none, .mov (.t 0)⟩,
     ⟨some 7, none, .lenS (.t 6)⟩,
     ⟨some 8, none, .bin .gtr (.t 7) (.c (.int .i64 17))⟩])
    (.cond (.t 8)
     (.seq
      (.reg [⟨some 2, none, .mov (.c (.int .i64 0))⟩,
       ⟨some 3, none, .mov (.c (.bool false))⟩])
      .ret)
     .skip))
   (.seq
    (.reg [⟨some 4, none, .mov (.c (.int .i64 0))⟩])
    (.seq
     (.seq
      (.reg [⟨some 5, none, .mov (.c (.int .i64 0))⟩])
      (.block 0
       (.loop [0, 4, 5]
        c53b0)))
     c53r0)))), none⟩
def k53 : List (List Nat) := [[0, 4, 5]]
def o53 : List Nat := [1000049, 1000050, 3000000]
/-- internal/strconv.Itoa -/
def c54 : AFn := ⟨1, 5, [.t 2],
 (.seq
  (.reg [⟨some 2, none, .mov (.c (.str []))⟩])
  (.seq
   (.reg [⟨some 3, none, .mov (.t 0)⟩,
    ⟨some 4, none, .call false 63 [(.t 3), (.c (.int .i64 10))]⟩,
    ⟨some 2, none, .mov (.t 4)⟩])
   .ret)), none⟩
def k54 : List (List Nat) := []
def o54 : List Nat := [1000049, 1000050, 3000000]
/-- (*strings.Builder).copyCheck -/
def c55 : AFn := ⟨1, 20, [],
 (.seq
  (.reg [⟨some 2, none, .mov (.t 0)⟩,
   ⟨some 3, none, .nilck (.t 2)⟩,
   ⟨some 4, none, .faddr 0 (.t 3)⟩,
   ⟨some 5, none, .load 1 false (.t 4)⟩,
   ⟨some 6, none, .bin .eql (.t 5) (.c (.v (.pointer none)))⟩])
  (.cond (.t 6)
   .stuck
   (.seq
    (.reg [⟨some 14, none, .mov (.t 0)⟩,
     ⟨some 15, none, .nilck (.t 14)⟩,
     ⟨some 16, none, .faddr 0 (.t 15)⟩,
     ⟨some 17, none, .load 1 false (.t 16)⟩,
     ⟨some 18, none, .mov (.t 0)⟩,
     ⟨some 19, none, .bin .neq (.t 17) (.t 18)⟩])
    (.cond (.t 19)
     .stuck
     .skip)))), none⟩
def k55 : List (List Nat) := []
def o55 : List Nat := [1000049, 1000050, 3000000]
/-- (*strings.Builder).grow -/
def c56 : AFn := ⟨2, 30, [],
 (.seq
  (.reg [⟨some 5, none, .mov (.t 0)⟩,
   ⟨some 6, none, .nilck (.t 5)⟩,
   ⟨some 7, none, .faddr 1 (.t 6)⟩,
   ⟨some 8, none, .load 1 false (.t 7)⟩,
   ⟨some 9, none, .capN (.t 8)⟩,
   ⟨some 10, none, .bin .mul (.c (.int .i64 2)) (.t 9)⟩,
   ⟨some 11, none, .mov (.t 1)⟩,
   ⟨some 12, none, .bin .add (.t 10) (.t 11)⟩,
   ⟨some 13, none, .call true 65 [(.t 12)]⟩,
   ⟨some 14, none, .mov (.t 0)⟩,
   ⟨some 15, none, .nilck (.t 14)⟩,
   ⟨some 16, none, .faddr 1 (.t 15)⟩,
   ⟨some 17, none, .load 1 false (.t 16)⟩,
   ⟨some 18, none, .len (.t 17)⟩,
   ⟨some 19, none, .slc (.slice 1) (.t 13) none (some (.t 18)) none⟩,
   ⟨some 4, none, .mov (.t 19)⟩])
  (.seq
   (.reg [⟨some 20, none, .mov (.t 4)⟩,
    ⟨some 21, none, .mov (.t 0)⟩,
    ⟨some 22, none, .nilck (.t 21)⟩,
    ⟨some 23, none, .faddr 1 (.t 22)⟩,
    ⟨some 24, none, .load 1 false (.t 23)⟩,
    ⟨some 25, none, .copy 1 (.t 20) (.t 24)⟩])
   (.reg [⟨some 26, none, .mov (.t 0)⟩,
    ⟨some 27, none, .mov (.t 4)⟩,
    ⟨some 28, none, .nilck (.t 26)⟩,
    ⟨some 29, none, .faddr 1 (.t 28)⟩,
    ⟨none, none, .store 1 (.t 29) (.t 27)⟩]))), none⟩
def k56 : List (List Nat) := []
def o56 : List Nat := [1000049, 1000050, 3000000, 13]
/-- strconv.Atoi -/
def c57 : AFn := ⟨1, 0, [], .skip, some (.p xAtoi)⟩
/-- tracebook/num.In -/
def c58 : AFn := ⟨1, 9, [.t 2],
 (.seq
  (.reg [⟨some 2, none, .mov (.c (.bool false))⟩])
  (.seq
   (.reg [⟨some 3, none, .mov (.t 0)⟩,
    ⟨some 4, none, .bin .leq (.c (.int .i64 (-1000000000000000))) (.t 3)⟩,
    ⟨some 5, none, .mov (.t 4)⟩,
    ⟨some 6, some (5, true), .mov (.t 0)⟩,
    ⟨some 7, some (5, true), .bin .leq (.t 6) (.c (.int .i64 1000000000000000))⟩,
    ⟨some 8, none, .pick (.t 5) (.t 7) (.c (.bool false))⟩,
    ⟨some 2, none, .mov (.t 8)⟩])
   .ret)), none⟩
def k58 : List (List Nat) := []
def o58 : List Nat := [1000049, 1000050, 3000000]
def c59b0 : AC := (.seq
          (.seq
           (.reg [⟨some 22, none, .mov (.t 7)⟩,
            ⟨some 23, none, .mov (.t 1)⟩,
            ⟨some 24, none, .bin .sub (.t 23) (.c (.int .i64 1))⟩,
            ⟨some 25, none, .bin .lss (.t 22) (.t 24)⟩])
           (.cond (.t 25)
            .skip
            (.exit 0)))
          (.seq
           (.block 1
            (.seq
             (.reg [⟨some 29, none, .mov (.t 0)⟩,
              ⟨some 30, none, .call false 69 [(.t 29)]⟩,
              ⟨some 28, none, .mov (.t 30)⟩,
              ⟨some 31, none, .ext (.t 28) 0⟩,
              ⟨some 32, none, .ext (.t 28) 1⟩,
              ⟨some 8, none, .mov (.t 31)⟩,
              ⟨some 9, none, .mov (.t 32)⟩])
             (.seq
              (.reg [⟨some 33, none, .mov (.t 6)⟩,
               ⟨some 34, none, .mov (.t 7)⟩,
               ⟨some 35, none, .mov (.t 0)⟩,
               ⟨some 36, none, .mov (.t 9)⟩,
               ⟨some 37, none, .slc .string (.t 35) none (some (.t 36)) none⟩,
               ⟨some 38, none, .iaddr (.slice 1) (.t 33) (.t 34)⟩,
               ⟨none, none, .store 1 (.t 38) (.t 37)⟩])
              (.reg [⟨some 39, none, .mov (.t 0)⟩,
               ⟨some 40, none, .mov (.t 9)⟩,
               ⟨some 41, none, .slc .string (.t 39) (some (.t 40)) none none⟩,
               ⟨some 0, none, .mov (.t 41)⟩]))))
           (.reg [⟨some 26, none, .mov (.t 7)⟩,
            ⟨some 27, none, .bin .add (.t 26) (.c (.int .i64 1))⟩,
            ⟨some 7, none, .mov (.t 27)⟩])))
/-- strings.explode -/
def c59 : AFn := ⟨2, 50, [.t 4],
 (.seq
  (.reg [⟨some 4, none, .nilv 1⟩])
  (.seq
   (.reg [⟨some 10, none, .mov (.t 0)⟩,
    ⟨some 11, none, .call false 68 [(.t 10)]⟩,
    ⟨some 5, none, .mov (.t 11)⟩])
   (.seq
    (.seq
     (.reg [⟨some 12, none, .mov (.t 1)⟩,
      ⟨some 13, none, .bin .lss (.t 12) (.c (.int .i64 0))⟩,
      ⟨some 14, none, .mov (.t 13)⟩,
      ⟨some 15, some (14, false), .mov (.t 1)⟩,
      ⟨some 16, some (14, false), .mov (.t 5)⟩,
      ⟨some 17, some (14, false), .bin .gtr (.t 15) (.t 16)⟩,
      ⟨some 18, none, .pick (.t 14) (.c (.bool true)) (.t 17)⟩])
     (.cond (.t 18)
      (.reg [⟨some 19, none, .mov (.t 5)⟩,
       ⟨some 1, none, .mov (.t 19)⟩])
      .skip))
    (.seq
     (.reg [⟨some 20, none, .mov (.t 1)⟩,
      ⟨some 21, none, .make 1 16 [(.str [])] (.t 20) (.t 20)⟩,
      ⟨some 6, none, .mov (.t 21)⟩])
     (.seq
      (.seq
       (.reg [⟨some 7, none, .mov (.c (.int .i64 0))⟩])
       (.block 0
        (.loop [0, 1, 6, 7]
         c59b0)))
      (.seq
       (.seq
        (.reg [⟨some 42, none, .mov (.t 1)⟩,
         ⟨some 43, none, .bin .gtr (.t 42) (.c (.int .i64 0))⟩])
        (.cond (.t 43)
         (.reg [⟨some 44, none, .mov (.t 6)⟩,
          ⟨some 45, none, .mov (.t 1)⟩,
          ⟨some 46, none, .bin .sub (.t 45) (.c (.int .i64 1))⟩,
          ⟨some 47, none, .mov (.t 0)⟩,
          ⟨some 48, none, .iaddr (.slice 1) (.t 44) (.t 46)⟩,
          ⟨none, none, .store 1 (.t 48) (.t 47)⟩])
         .skip))
       (.seq
        (.reg [⟨some 49, none, .mov (.t 6)⟩,
         ⟨some 4, none, .mov (.t 49)⟩])
        .ret))))))), none⟩
def k59 : List (List Nat) := [[0, 1, 6, 7]]
def o59 : List Nat := [1000049, 1000050, 3000000, 21]
def c60b0 : AC := (.block 1
        (.seq
         (.reg [⟨some 20, none, .mov (.t 0)⟩,
          ⟨some 21, none, .mov (.t 1)⟩,
          ⟨some 22, none, .call false 61 [(.t 20), (.t 21)]⟩,
          ⟨some 6, none, .mov (.t 22)⟩])
         (.seq
          (.seq
           (.reg [⟨some 23, none, .mov (.t 6)⟩,
            ⟨some 24, none, .bin .eql (.t 23) (.c (.int .i64 (-1)))⟩])
           (.cond (.t 24)
            (.seq
             (.reg [⟨some 25, none, .mov (.t 5)⟩,
              ⟨some 4, none, .mov (.t 25)⟩])
             .ret)
            .skip))
          (.seq
           (.reg [⟨some 26, none, .mov (.t 5)⟩,
            ⟨some 27, none, .bin .add (.t 26) (.c (.int .i64 1))⟩,
            ⟨some 5, none, .mov (.t 27)⟩])
           (.reg [⟨some 28, none, .mov (.t 0)⟩,
            ⟨some 29, none, .mov (.t 6)⟩,
            ⟨some 30, none, .mov (.t 1)⟩,
            ⟨some 31, none, .lenS (.t 30)⟩,
            ⟨some 32, none, .bin .add (.t 29) (.t 31)⟩,
            ⟨some 33, none, .slc .string (.t 28) (some (.t 32)) none none⟩,
            ⟨some 0, none, .mov (.t 33)⟩])))))
/-- strings.Count -/
def c60 : AFn := ⟨2, 34, [.t 4],
 (.seq
  (.reg [⟨some 4, none, .mov (.c (.int .i64 0))⟩])
  (.seq
   (.seq
    (.reg [⟨some 7, none, .mov (.t 1)⟩,
     ⟨some 8, none, .lenS (.t 7)⟩,
     ⟨some 9, none, .bin .eql (.t 8) (.c (.int .i64 0))⟩])
    (.cond (.t 9)
     (.seq
      (.reg [⟨some 10, none, .mov (.t 0)⟩,
       ⟨some 11, none, .call false 68 [(.t 10)]⟩,
       ⟨some 12, none, .bin .add (.t 11) (.c (.int .i64 1))⟩,
       ⟨some 4, none, .mov (.t 12)⟩])
      .ret)
     .skip))
   (.seq
    (.seq
     (.reg [⟨some 13, none, .mov (.t 1)⟩,
      ⟨some 14, none, .lenS (.t 13)⟩,
      ⟨some 15, none, .bin .eql (.t 14) (.c (.int .i64 1))⟩])
     (.cond (.t 15)
      (.seq
       (.reg [⟨some 16, none, .mov (.t 0)⟩,
        ⟨some 17, none, .mov (.t 1)⟩,
        ⟨some 18, none, .idxS (.t 17) (.c (.int .i64 0))⟩,
        ⟨some 19, none, .call false 70 [(.t 16), (.t 18)]⟩,
        ⟨some 4, none, .mov (.t 19)⟩])
       .ret)
      .skip))
    (.seq
     (.reg [⟨some 5, none, .mov (.c (.int .i64 0))⟩])
     (.block 0
      (.loop [0, 1, 5]
       c60b0)))))), none⟩
def k60 : List (List Nat) := [[0, 1, 5]]
def o60 : List Nat := [1000049, 1000050, 3000000]
/-- strings.Index -/
def c61 : AFn := ⟨2, 8, [.t 4],
 (.seq
  (.reg [⟨some 4, none, .mov (.c (.int .i64 0))⟩])
  (.seq
   (.reg [⟨some 5, none, .mov (.t 0)⟩,
    ⟨some 6, none, .mov (.t 1)⟩,
    ⟨some 7, none, .call false 71 [(.t 5), (.t 6)]⟩,
    ⟨some 4, none, .mov (.t 7)⟩])
   .ret)), none⟩
def k61 : List (List Nat) := []
def o61 : List Nat := [1000049, 1000050, 3000000]
/-- tracebook/tracebookref01.In -/
def c62 : AFn := ⟨1, 9, [.t 2],
 (.seq
  (.reg [⟨some 2, none, .mov (.c (.bool false))⟩])
  (.seq
   (.reg [⟨some 3, none, .mov (.t 0)⟩,
    ⟨some 4, none, .bin .geq (.t 3) (.c (.int .i64 (-1000000000000000)))⟩,
    ⟨some 5, none, .mov (.t 4)⟩,
    ⟨some 6, some (5, true), .mov (.t 0)⟩,
    ⟨some 7, some (5, true), .bin .leq (.t 6) (.c (.int .i64 1000000000000000))⟩,
    ⟨some 8, none, .pick (.t 5) (.t 7) (.c (.bool false))⟩,
    ⟨some 2, none, .mov (.t 8)⟩])
   .ret)), none⟩
def k62 : List (List Nat) := []
def o62 : List Nat := [1000049, 1000050, 3000000]
/-- internal/strconv.FormatInt -/
def c63 : AFn := ⟨2, 54, [.t 4],
 (.seq
  (.reg [⟨some 4, none, .mov (.c (.str []))⟩])
  (.seq
   (.seq
    (.reg [⟨some 10, none, .mov (.t 1)⟩,
     ⟨some 11, none, .bin .eql (.t 10) (.c (.int .i64 10))⟩])
    (.cond (.t 11)
     (.seq
      (.seq
       (.reg [⟨some 12, none, .mov (.t 0)⟩,
        ⟨some 13, none, .bin .leq (.c (.int .i64 0)) (.t 12)⟩,
        ⟨some 14, none, .mov (.t 13)⟩,
        ⟨some 15, some (14, true), .mov (.t 0)⟩,
        ⟨some 16, some (14, true), .bin .lss (.t 15) (.c (.int .i64 100))⟩,
        ⟨some 17, none, .pick (.t 14) (.t 16) (.c (.bool false))⟩])
       (.cond (.t 17)
        (.seq
         (.reg [⟨some 18, none, .mov (.t 0)⟩,
          ⟨some 19, none, .call false 72 [(.t 18)]⟩,
          ⟨some 4, none, .mov (.t 19)⟩])
         .ret)
        .skip))
      (.seq
       (.reg [⟨some 5, none, .alloca 1 24 [(.int .u8 0), (.int .u8 0), (.int .u8 0), (.int .u8 0), (.int .u8 0), (.int .u8 0), (.int .u8 0), (.int .u8 0), (.int .u8 0), (.int .u8 0), (.int .u8 0), (.int .u8 0), (.int .u8 0), (.int .u8 0), (.int .u8 0), (.int .u8 0), (.int .u8 0), (.int .u8 0), (.int .u8 0), (.int .u8 0), (.int .u8 0), (.int .u8 0), (.int .u8 0), (.int .u8 0)]⟩])
       (.seq
        (.reg [⟨some 20, none, .mov (.t 0)⟩,
         ⟨some 21, none, .conv (.int .u64) (.t 20)⟩,
         ⟨some 6, none, .mov (.t 21)⟩])
        (.seq
         (.seq
          (.reg [⟨some 22, none, .mov (.t 0)⟩,
           ⟨some 23, none, .bin .lss (.t 22) (.c (.int .i64 0))⟩])
          (.cond (.t 23)
           (.reg [⟨some 24, none, .mov (.t 6)⟩,
            ⟨some 25, none, .un .neg (.t 24)⟩,
            ⟨some 6, none, .mov (.t 25)⟩])
           .skip))
         (.seq
          (.reg [⟨some 26, none, .mov (.t 6)⟩,
           ⟨some 27, none, .call false 73 [(.t 26)]⟩,
           ⟨some 7, none, .mov (.t 27)⟩])
          (.seq
           .stuck
           (.seq
            (.seq
             (.reg [⟨some 33, none, .mov (.t 0)⟩,
              ⟨some 34, none, .bin .lss (.t 33) (.c (.int .i64 0))⟩])
             (.cond (.t 34)
              (.seq
               (.reg [⟨some 35, none, .iaddr (.array 24 1) (.t 5) (.c (.int .i64 0))⟩,
                ⟨none, none, .store 1 (.t 35) (.c (.int .u8 45))⟩])
               (.seq
                (.reg [⟨some 36, none, .mov (.t 7)⟩,
                 ⟨some 37, none, .bin .add (.c (.int .i64 1)) (.t 36)⟩,
                 ⟨some 38, none, .asl 1 24 (.t 5) (some (.t 37))⟩,
                 ⟨some 39, none, .conv .toStr (.t 38)⟩,
                 ⟨some 4, none, .mov (.t 39)⟩])
                .ret))
              .skip))
            (.seq
             .stuck
             .ret))))))))
     .skip))
   (.seq
    (.reg [⟨some 45, none, .mov (.t 0)⟩,
     ⟨some 46, none, .conv (.int .u64) (.t 45)⟩,
     ⟨some 47, none, .mov (.t 1)⟩,
     ⟨some 48, none, .mov (.t 0)⟩,
     ⟨some 49, none, .bin .lss (.t 48) (.c (.int .i64 0))⟩,
     ⟨some 50, none, .call false 75 [(.c .nilS), (.t 46), (.t 47), (.t 49), (.c (.bool false))]⟩,
     ⟨some 44, none, .mov (.t 50)⟩,
     ⟨some 51, none, .ext (.t 44) 0⟩,
     ⟨some 52, none, .ext (.t 44) 1⟩,
     ⟨some 8, none, .mov (.t 51)⟩,
     ⟨some 9, none, .mov (.t 52)⟩])
    (.seq
     (.reg [⟨some 53, none, .mov (.t 9)⟩,
      ⟨some 4, none, .mov (.t 53)⟩])
     .ret)))), none⟩
def k63 : List (List Nat) := []
def o63 : List Nat := [1000049, 1000050, 3000000]
def c66b0 : AC := (.seq
              (.reg [⟨some 50, none, .bin .lss (.t 49) (.t 48)⟩])
              (.seq
               (.cond (.t 50)
                .skip
                (.exit 0))
               (.seq
                (.block 1
                 (.seq
                  (.reg [⟨some 51, none, .iaddr (.slice 1) (.t 47) (.t 49)⟩,
                   ⟨some 52, none, .load 1 false (.t 51)⟩,
                   ⟨some 8, none, .mov (.t 52)⟩])
                  (.seq
                   (.reg [⟨some 53, none, .mov (.t 8)⟩,
                    ⟨some 54, none, .bin .sub (.t 53) (.c (.int .u8 48))⟩,
                    ⟨some 8, none, .mov (.t 54)⟩])
                   (.seq
                    (.seq
                     (.reg [⟨some 55, none, .mov (.t 8)⟩,
                      ⟨some 56, none, .bin .gtr (.t 55) (.c (.int .u8 9))⟩])
                     (.cond (.t 56)
                      (.seq
                       .stuck
                       .ret)
                      .skip))
                    (.reg [⟨some 58, none, .mov (.t 6)⟩,
                     ⟨some 59, none, .bin .mul (.t 58) (.c (.int .i64 10))⟩,
                     ⟨some 60, none, .mov (.t 8)⟩,
                     ⟨some 61, none, .conv (.int .i64) (.t 60)⟩,
                     ⟨some 62, none, .bin .add (.t 59) (.t 61)⟩,
                     ⟨some 6, none, .mov (.t 62)⟩])))))
                (.reg [⟨some 63, none, .bin .add (.t 49) (.c (.int .i64 1))⟩,
                 ⟨some 49, none, .mov (.t 63)⟩]))))
def c66r0 : AC := (.seq
     (.reg [⟨some 71, none, .mov (.t 0)⟩,
      ⟨some 72, none, .call false 76 [(.t 71), (.c (.int .i64 10)), (.c (.int .i64 0))]⟩,
      ⟨some 70, none, .mov (.t 72)⟩,
      ⟨some 73, none, .ext (.t 70) 0⟩,
      ⟨some 74, none, .ext (.t 70) 1⟩,
      ⟨some 9, none, .mov (.t 73)⟩,
      ⟨some 10, none, .mov (.t 74)⟩])
     (.seq
      (.reg [⟨some 75, none, .mov (.t 9)⟩,
       ⟨some 76, none, .mov (.t 10)⟩,
       ⟨some 2, none, .mov (.t 75)⟩,
       ⟨some 3, none, .mov (.t 76)⟩])
      .ret))
/-- internal/strconv.Atoi -/
def c66 : AFn := ⟨1, 77, [.t 2, .t 3],
 (.seq
  (.reg [⟨some 2, none, .mov (.c (.int .i64 0))⟩,
   ⟨some 3, none, .mov (.c (.v .nilIface))⟩])
  (.seq
   (.reg [⟨some 11, none, .mov (.t 0)⟩,
    ⟨some 12, none, .lenS (.t 11)⟩,
    ⟨some 4, none, .mov (.t 12)⟩])
   (.seq
    (.seq
     (.reg [⟨some 13, none, .mov (.c (.bool false))⟩,
      ⟨some 14, some (13, true), .mov (.t 4)⟩,
      ⟨some 15, some (13, true), .bin .lss (.c (.int .i64 0)) (.t 14)⟩,
      ⟨some 16, some (13, true), .mov (.t 15)⟩,
      ⟨some 17, some (16, true), .mov (.t 4)⟩,
      ⟨some 18, some (16, true), .bin .lss (.t 17) (.c (.int .i64 10))⟩,
      ⟨some 19, some (13, true), .pick (.t 16) (.t 18) (.c (.bool false))⟩,
      ⟨some 20, none, .pick (.t 13) (.t 19) (.c (.bool false))⟩,
      ⟨some 21, none, .mov (.t 20)⟩,
      ⟨some 22, some (21, false), .mov (.c (.bool true))⟩,
      ⟨some 23, some (22, true), .mov (.t 4)⟩,
      ⟨some 24, some (22, true), .bin .lss (.c (.int .i64 0)) (.t 23)⟩,
      ⟨some 25, some (22, true), .mov (.t 24)⟩,
      ⟨some 26, some (25, true), .mov (.t 4)⟩,
      ⟨some 27, some (25, true), .bin .lss (.t 26) (.c (.int .i64 19))⟩,
      ⟨some 28, some (22, true), .pick (.t 25) (.t 27) (.c (.bool false))⟩,
      ⟨some 29, some (21, false), .pick (.t 22) (.t 28) (.c (.bool false))⟩,
      ⟨some 30, none, .pick (.t 21) (.c (.bool true)) (.t 29)⟩])
     (.cond (.t 30)
      (.seq
       (.reg [⟨some 31, none, .mov (.t 0)⟩,
        ⟨some 5, none, .mov (.t 31)⟩])
       (.seq
        (.seq
         (.reg [⟨some 32, none, .mov (.t 0)⟩,
          ⟨some 33, none, .idxS (.t 32) (.c (.int .i64 0))⟩,
          ⟨some 34, none, .bin .eql (.t 33) (.c (.int .u8 45))⟩,
          ⟨some 35, none, .mov (.t 34)⟩,
          ⟨some 36, some (35, false), .mov (.t 0)⟩,
          ⟨some 37, some (35, false), .idxS (.t 36) (.c (.int .i64 0))⟩,
          ⟨some 38, some (35, false), .bin .eql (.t 37) (.c (.int .u8 43))⟩,
          ⟨some 39, none, .pick (.t 35) (.c (.bool true)) (.t 38)⟩])
         (.cond (.t 39)
          (.seq
           (.reg [⟨some 40, none, .mov (.t 0)⟩,
            ⟨some 41, none, .slc .string (.t 40) (some (.c (.int .i64 1))) none none⟩,
            ⟨some 0, none, .mov (.t 41)⟩])
           (.seq
            (.reg [⟨some 42, none, .mov (.t 0)⟩,
             ⟨some 43, none, .lenS (.t 42)⟩,
             ⟨some 44, none, .bin .lss (.t 43) (.c (.int .i64 1))⟩])
            (.cond (.t 44)
             (.seq
              .stuck
              .ret)
             .skip)))
          .skip))
        (.seq
         (.reg [⟨some 6, none, .mov (.c (.int .i64 0))⟩])
         (.seq
          (.seq
           .stuck
           (.block 0
            (.loop [5, 6, 47, 48, 49]
             c66b0)))
          (.seq
           (.seq
            (.reg [⟨some 64, none, .mov (.t 5)⟩,
             ⟨some 65, none, .idxS (.t 64) (.c (.int .i64 0))⟩,
             ⟨some 66, none, .bin .eql (.t 65) (.c (.int .u8 45))⟩])
            (.cond (.t 66)
             (.reg [⟨some 67, none, .mov (.t 6)⟩,
              ⟨some 68, none, .un .neg (.t 67)⟩,
              ⟨some 6, none, .mov (.t 68)⟩])
             .skip))
           (.seq
            (.reg [⟨some 69, none, .mov (.t 6)⟩,
             ⟨some 2, none, .mov (.t 69)⟩,
             ⟨some 3, none, .mov (.c (.v .nilIface))⟩])
            .ret))))))
      .skip))
    c66r0))), none⟩
def k66 : List (List Nat) := [[5, 6, 47, 48, 49]]
def o66 : List Nat := [1000049, 1000050, 3000000]
/-- strconv.toError -/
def c67 : AFn := ⟨5, 43, [.t 10],
 (.seq
  (.reg [⟨some 10, none, .mov (.c (.v .nilIface))⟩])
  (.seq
   (.seq
    (.reg [⟨some 11, none, .mov (.t 4)⟩])
    (.block 0
     (.seq
      .stuck
      (.cond (.t 12)
       (.seq
        .stuck
        .ret)
       (.seq
        .stuck
        (.cond (.t 19)
         (.seq
          .stuck
          .ret)
         (.seq
          .stuck
          (.cond (.t 26)
           (.seq
            .stuck
            .ret)
           (.seq
            .stuck
            (.cond (.t 34)
             (.seq
              .stuck
              .ret)
             .skip))))))))))
   (.seq
    (.reg [⟨some 42, none, .mov (.t 4)⟩,
     ⟨some 10, none, .mov (.t 42)⟩])
    .ret))), none⟩
def k67 : List (List Nat) := []
def o67 : List Nat := [1000049, 1000050, 3000000]
def c68b0 : AC := (.seq
       .stuck
       (.seq
        (.cond (.t 6)
         .skip
         (.exit 0))
        (.block 1
         (.reg [⟨some 7, none, .mov (.t 2)⟩,
          ⟨some 8, none, .bin .add (.t 7) (.c (.int .i64 1))⟩,
          ⟨some 2, none, .mov (.t 8)⟩]))))
/-- unicode/utf8.RuneCountInString -/
def c68 : AFn := ⟨1, 10, [.t 2],
 (.seq
  (.reg [⟨some 2, none, .mov (.c (.int .i64 0))⟩])
  (.seq
   (.seq
    .stuck
    (.block 0
     (.loop []
      c68b0)))
   (.seq
    (.reg [⟨some 9, none, .mov (.t 2)⟩,
     ⟨some 2, none, .mov (.t 9)⟩])
    .ret))), none⟩
def k68 : List (List Nat) := [[]]
def o68 : List Nat := [1000049, 1000050, 3000000]
/-- unicode/utf8.DecodeRuneInString -/
def c69 : AFn := ⟨1, 19, [.t 2, .t 3],
 (.seq
  (.reg [⟨some 2, none, .mov (.c (.int .i32 0))⟩,
   ⟨some 3, none, .mov (.c (.int .i64 0))⟩])
  (.seq
   (.seq
    (.reg [⟨some 4, none, .mov (.t 0)⟩,
     ⟨some 5, none, .bin .neq (.t 4) (.c (.str []))⟩,
     ⟨some 6, none, .mov (.t 5)⟩,
     ⟨some 7, some (6, true), .mov (.t 0)⟩,
     ⟨some 8, some (6, true), .idxS (.t 7) (.c (.int .i64 0))⟩,
     ⟨some 9, some (6, true), .bin .lss (.t 8) (.c (.int .u8 128))⟩,
     ⟨some 10, none, .pick (.t 6) (.t 9) (.c (.bool false))⟩])
    (.cond (.t 10)
     (.seq
      (.reg [⟨some 11, none, .mov (.t 0)⟩,
       ⟨some 12, none, .idxS (.t 11) (.c (.int .i64 0))⟩,
       ⟨some 13, none, .conv (.int .i32) (.t 12)⟩,
       ⟨some 2, none, .mov (.t 13)⟩,
       ⟨some 3, none, .mov (.c (.int .i64 1))⟩])
      .ret)
     (.reg [⟨some 15, none, .mov (.t 0)⟩,
      ⟨some 16, none, .call false 81 [(.t 15)]⟩,
      ⟨some 14, none, .mov (.t 16)⟩,
      ⟨some 17, none, .ext (.t 14) 0⟩,
      ⟨some 18, none, .ext (.t 14) 1⟩,
      ⟨some 2, none, .mov (.t 17)⟩,
      ⟨some 3, none, .mov (.t 18)⟩])))
   .ret)), none⟩
def k69 : List (List Nat) := []
def o69 : List Nat := [1000049, 1000050, 3000000]
def c71b0 : AC := (.seq
             (.seq
              (.reg [⟨some 57, none, .mov (.t 8)⟩,
               ⟨some 58, none, .mov (.t 9)⟩,
               ⟨some 59, none, .bin .lss (.t 57) (.t 58)⟩])
              (.cond (.t 59)
               .skip
               (.exit 1)))
             (.block 2
              (.seq
               (.seq
                (.reg [⟨some 60, none, .mov (.t 0)⟩,
                 ⟨some 61, none, .mov (.t 8)⟩,
                 ⟨some 62, none, .idxS (.t 60) (.t 61)⟩,
                 ⟨some 63, none, .mov (.t 6)⟩,
                 ⟨some 64, none, .bin .neq (.t 62) (.t 63)⟩])
                (.cond (.t 64)
                 (.seq
                  (.reg [⟨some 65, none, .mov (.t 0)⟩,
                   ⟨some 66, none, .mov (.t 8)⟩,
                   ⟨some 67, none, .bin .add (.t 66) (.c (.int .i64 1))⟩,
                   ⟨some 68, none, .mov (.t 9)⟩,
                   ⟨some 69, none, .slc .string (.t 65) (some (.t 67)) (some (.t 68)) none⟩,
                   ⟨some 70, none, .mov (.t 6)⟩,
                   ⟨some 71, none, .call false 82 [(.t 69), (.t 70)]⟩,
                   ⟨some 11, none, .mov (.t 71)⟩])
                  (.seq
                   (.seq
                    (.reg [⟨some 72, none, .mov (.t 11)⟩,
                     ⟨some 73, none, .bin .lss (.t 72) (.c (.int .i64 0))⟩])
                    (.cond (.t 73)
                     (.seq
                      (.reg [⟨some 4, none, .mov (.c (.int .i64 (-1)))⟩])
                      .ret)
                     .skip))
                   (.reg [⟨some 74, none, .mov (.t 8)⟩,
                    ⟨some 75, none, .mov (.t 11)⟩,
                    ⟨some 76, none, .bin .add (.t 75) (.c (.int .i64 1))⟩,
                    ⟨some 77, none, .bin .add (.t 74) (.t 76)⟩,
                    ⟨some 8, none, .mov (.t 77)⟩])))
                 .skip))
               (.seq
                (.seq
                 (.reg [⟨some 78, none, .mov (.t 0)⟩,
                  ⟨some 79, none, .mov (.t 8)⟩,
                  ⟨some 80, none, .bin .add (.t 79) (.c (.int .i64 1))⟩,
                  ⟨some 81, none, .idxS (.t 78) (.t 80)⟩,
                  ⟨some 82, none, .mov (.t 7)⟩,
                  ⟨some 83, none, .bin .eql (.t 81) (.t 82)⟩,
                  ⟨some 84, none, .mov (.t 83)⟩,
                  ⟨some 85, some (84, true), .mov (.t 0)⟩,
                  ⟨some 86, some (84, true), .mov (.t 8)⟩,
                  ⟨some 87, some (84, true), .mov (.t 8)⟩,
                  ⟨some 88, some (84, true), .mov (.t 5)⟩,
                  ⟨some 89, some (84, true), .bin .add (.t 87) (.t 88)⟩,
                  ⟨some 90, some (84, true), .slc .string (.t 85) (some (.t 86)) (some (.t 89)) none⟩,
                  ⟨some 91, some (84, true), .mov (.t 1)⟩,
                  ⟨some 92, some (84, true), .bin .eql (.t 90) (.t 91)⟩,
                  ⟨some 93, none, .pick (.t 84) (.t 92) (.c (.bool false))⟩])
                 (.cond (.t 93)
                  (.seq
                   (.reg [⟨some 94, none, .mov (.t 8)⟩,
                    ⟨some 4, none, .mov (.t 94)⟩])
                   .ret)
                  .skip))
                (.seq
                 (.reg [⟨some 95, none, .mov (.t 8)⟩,
                  ⟨some 96, none, .bin .add (.t 95) (.c (.int .i64 1))⟩,
                  ⟨some 8, none, .mov (.t 96)⟩])
                 (.seq
                  (.reg [⟨some 97, none, .mov (.t 10)⟩,
                   ⟨some 98, none, .bin .add (.t 97) (.c (.int .i64 1))⟩,
                   ⟨some 10, none, .mov (.t 98)⟩])
                  (.seq
                   .stuck
                   (.cond (.t 107)
                    (.seq
                     (.reg [⟨some 108, none, .mov (.t 0)⟩,
                      ⟨some 109, none, .mov (.t 8)⟩,
                      ⟨some 110, none, .slc .string (.t 108) (some (.t 109)) none none⟩,
                      ⟨some 111, none, .mov (.t 1)⟩,
                      ⟨some 112, none, .call false 83 [(.t 110), (.t 111)]⟩,
                      ⟨some 12, none, .mov (.t 112)⟩])
                     (.seq
                      (.seq
                       (.reg [⟨some 113, none, .mov (.t 12)⟩,
                        ⟨some 114, none, .bin .geq (.t 113) (.c (.int .i64 0))⟩])
                       (.cond (.t 114)
                        (.seq
                         (.reg [⟨some 115, none, .mov (.t 12)⟩,
                          ⟨some 116, none, .mov (.t 8)⟩,
                          ⟨some 117, none, .bin .add (.t 115) (.t 116)⟩,
                          ⟨some 4, none, .mov (.t 117)⟩])
                         .ret)
                        .skip))
                      (.seq
                       (.reg [⟨some 4, none, .mov (.c (.int .i64 (-1)))⟩])
                       .ret)))
                    (.seq
                     .stuck
                     (.cond (.t 132)
                      (.seq
                       (.reg [⟨some 133, none, .mov (.t 0)⟩,
                        ⟨some 134, none, .mov (.t 8)⟩,
                        ⟨some 135, none, .slc .string (.t 133) (some (.t 134)) none none⟩,
                        ⟨some 136, none, .mov (.t 1)⟩,
                        ⟨some 137, none, .call false 85 [(.t 135), (.t 136)]⟩,
                        ⟨some 13, none, .mov (.t 137)⟩])
                       (.seq
                        (.seq
                         (.reg [⟨some 138, none, .mov (.t 13)⟩,
                          ⟨some 139, none, .bin .lss (.t 138) (.c (.int .i64 0))⟩])
                         (.cond (.t 139)
                          (.seq
                           (.reg [⟨some 4, none, .mov (.c (.int .i64 (-1)))⟩])
                           .ret)
                          .skip))
                        (.seq
                         (.reg [⟨some 140, none, .mov (.t 8)⟩,
                          ⟨some 141, none, .mov (.t 13)⟩,
                          ⟨some 142, none, .bin .add (.t 140) (.t 141)⟩,
                          ⟨some 4, none, .mov (.t 142)⟩])
                         .ret)))
                      .skip))))))))))
/-- internal/stringslite.Index -/
def c71 : AFn := ⟨2, 143, [.t 4],
 (.seq
  (.reg [⟨some 4, none, .mov (.c (.int .i64 0))⟩])
  (.seq
   (.reg [⟨some 14, none, .mov (.t 1)⟩,
    ⟨some 15, none, .lenS (.t 14)⟩,
    ⟨some 5, none, .mov (.t 15)⟩])
   (.seq
    (.block 0
     (.seq
      (.reg [⟨some 17, none, .mov (.t 5)⟩,
       ⟨some 18, none, .bin .eql (.t 17) (.c (.int .i64 0))⟩,
       ⟨some 19, none, .mov (.t 18)⟩,
       ⟨some 20, some (19, false), .mov (.t 1)⟩,
       ⟨some 21, some (19, false), .mov (.t 0)⟩,
       ⟨some 22, some (19, false), .bin .eql (.t 20) (.t 21)⟩,
       ⟨some 23, none, .pick (.t 19) (.c (.bool true)) (.t 22)⟩,
       ⟨some 16, none, .mov (.t 23)⟩])
      (.cond (.t 16)
       (.seq
        (.reg [⟨some 4, none, .mov (.c (.int .i64 0))⟩])
        .ret)
       (.seq
        (.reg [⟨some 25, none, .mov (.t 5)⟩,
         ⟨some 26, none, .bin .eql (.t 25) (.c (.int .i64 1))⟩,
         ⟨some 24, none, .mov (.t 26)⟩])
        (.cond (.t 24)
         (.seq
          (.reg [⟨some 27, none, .mov (.t 0)⟩,
           ⟨some 28, none, .mov (.t 1)⟩,
           ⟨some 29, none, .idxS (.t 28) (.c (.int .i64 0))⟩,
           ⟨some 30, none, .call false 82 [(.t 27), (.t 29)]⟩,
           ⟨some 4, none, .mov (.t 30)⟩])
          .ret)
         (.seq
          (.reg [⟨some 32, none, .mov (.t 5)⟩,
           ⟨some 33, none, .mov (.t 0)⟩,
           ⟨some 34, none, .lenS (.t 33)⟩,
           ⟨some 35, none, .bin .geq (.t 32) (.t 34)⟩,
           ⟨some 31, none, .mov (.t 35)⟩])
          (.cond (.t 31)
           (.seq
            (.reg [⟨some 4, none, .mov (.c (.int .i64 (-1)))⟩])
            .ret)
           (.seq
            .stuck
            (.cond (.t 36)
             (.seq
              (.reg [⟨some 45, none, .mov (.t 0)⟩,
               ⟨some 46, none, .mov (.t 1)⟩,
               ⟨some 47, none, .call false 83 [(.t 45), (.t 46)]⟩,
               ⟨some 4, none, .mov (.t 47)⟩])
              .ret)
             .skip)))))))))
    (.seq
     (.reg [⟨some 48, none, .mov (.t 1)⟩,
      ⟨some 49, none, .idxS (.t 48) (.c (.int .i64 0))⟩,
      ⟨some 6, none, .mov (.t 49)⟩])
     (.seq
      (.reg [⟨some 50, none, .mov (.t 1)⟩,
       ⟨some 51, none, .idxS (.t 50) (.c (.int .i64 1))⟩,
       ⟨some 7, none, .mov (.t 51)⟩])
      (.seq
       (.reg [⟨some 8, none, .mov (.c (.int .i64 0))⟩])
       (.seq
        (.reg [⟨some 52, none, .mov (.t 0)⟩,
         ⟨some 53, none, .lenS (.t 52)⟩,
         ⟨some 54, none, .mov (.t 5)⟩,
         ⟨some 55, none, .bin .sub (.t 53) (.t 54)⟩,
         ⟨some 56, none, .bin .add (.t 55) (.c (.int .i64 1))⟩,
         ⟨some 9, none, .mov (.t 56)⟩])
        (.seq
         (.reg [⟨some 10, none, .mov (.c (.int .i64 0))⟩])
         (.seq
          (.block 1
           (.loop [0, 1, 5, 6, 7, 8, 9, 10]
            c71b0))
          (.seq
           (.reg [⟨some 4, none, .mov (.c (.int .i64 (-1)))⟩])
           .ret)))))))))), none⟩
def k71 : List (List Nat) := [[0, 1, 5, 6, 7, 8, 9, 10]]
def o71 : List Nat := [1000049, 1000050, 3000000]
/-- internal/strconv.small -/
def c72 : AFn := ⟨1, 15, [.t 2],
 (.seq
  (.reg [⟨some 2, none, .mov (.c (.str []))⟩])
  (.seq
   (.seq
    (.reg [⟨some 3, none, .mov (.t 0)⟩,
     ⟨some 4, none, .bin .lss (.t 3) (.c (.int .i64 10))⟩])
    (.cond (.t 4)
     (.seq
      (.reg [⟨some 5, none, .mov (.t 0)⟩,
       ⟨some 6, none, .mov (.t 0)⟩,
       ⟨some 7, none, .bin .add (.t 6) (.c (.int .i64 1))⟩,
       ⟨some 8, none, .slc .string (.c (.str [48, 49, 50, 51, 52, 53, 54, 55, 56, 57, 97, 98, 99, 100, 101, 102, 103, 104, 105, 106, 107, 108, 109, 110, 111, 112, 113, 114, 115, 116, 117, 118, 119, 120, 121, 122])) (some (.t 5)) (some (.t 7)) none⟩,
       ⟨some 2, none, .mov (.t 8)⟩])
      .ret)
     .skip))
   (.seq
    (.reg [⟨some 9, none, .mov (.t 0)⟩,
     ⟨some 10, none, .bin .mul (.t 9) (.c (.int .i64 2))⟩,
     ⟨some 11, none, .mov (.t 0)⟩,
     ⟨some 12, none, .bin .mul (.t 11) (.c (.int .i64 2))⟩,
     ⟨some 13, none, .bin .add (.t 12) (.c (.int .i64 2))⟩,
     ⟨some 14, none, .slc .string (.c (.str [48, 48, 48, 49, 48, 50, 48, 51, 48, 52, 48, 53, 48, 54, 48, 55, 48, 56, 48, 57, 49, 48, 49, 49, 49, 50, 49, 51, 49, 52, 49, 53, 49, 54, 49, 55, 49, 56, 49, 57, 50, 48, 50, 49, 50, 50, 50, 51, 50, 52, 50, 53, 50, 54, 50, 55, 50, 56, 50, 57, 51, 48, 51, 49, 51, 50, 51, 51, 51, 52, 51, 53, 51, 54, 51, 55, 51, 56, 51, 57, 52, 48, 52, 49, 52, 50, 52, 51, 52, 52, 52, 53, 52, 54, 52, 55, 52, 56, 52, 57, 53, 48, 53, 49, 53, 50, 53, 51, 53, 52, 53, 53, 53, 54, 53, 55, 53, 56, 53, 57, 54, 48, 54, 49, 54, 50, 54, 51, 54, 52, 54, 53, 54, 54, 54, 55, 54, 56, 54, 57, 55, 48, 55, 49, 55, 50, 55, 51, 55, 52, 55, 53, 55, 54, 55, 55, 55, 56, 55, 57, 56, 48, 56, 49, 56, 50, 56, 51, 56, 52, 56, 53, 56, 54, 56, 55, 56, 56, 56, 57, 57, 48, 57, 49, 57, 50, 57, 51, 57, 52, 57, 53, 57, 54, 57, 55, 57, 56, 57, 57])) (some (.t 10)) (some (.t 13)) none⟩,
     ⟨some 2, none, .mov (.t 14)⟩])
    .ret))), none⟩
def k72 : List (List Nat) := []
def o72 : List Nat := [1000049, 1000050, 3000000]
/-- internal/strconv.numDigits -/
def c73 : AFn := ⟨1, 15, [.t 2],
 (.seq
  (.reg [⟨some 2, none, .mov (.c (.int .i64 0))⟩])
  (.seq
   (.reg [⟨some 4, none, .mov (.t 0)⟩,
    ⟨some 5, none, .call false 87 [(.t 4)]⟩,
    ⟨some 6, none, .call false 86 [(.t 5)]⟩,
    ⟨some 3, none, .mov (.t 6)⟩])
   (.seq
    .stuck
    .ret))), none⟩
def k73 : List (List Nat) := []
def o73 : List Nat := [1000049, 1000050, 3000000]
def c74b0 : AC := (.seq
      (.seq
       (.reg [⟨some 19, none, .mov (.t 4)⟩,
        ⟨some 20, none, .bin .geq (.t 19) (.c (.int .i64 8))⟩])
       (.cond (.t 20)
        .skip
        (.exit 0)))
      (.block 1
       (.seq
        (.reg [⟨some 21, none, .mov (.t 1)⟩,
         ⟨some 22, none, .bin .rem (.t 21) (.c (.int .u64 100000000))⟩,
         ⟨some 23, none, .conv (.int .u32) (.t 22)⟩,
         ⟨some 5, none, .mov (.t 23)⟩])
        (.seq
         (.reg [⟨some 24, none, .mov (.t 1)⟩,
          ⟨some 25, none, .bin .quo (.t 24) (.c (.int .u64 100000000))⟩,
          ⟨some 1, none, .mov (.t 25)⟩])
         (.seq
          (.reg [⟨some 26, none, .mov (.t 5)⟩,
           ⟨some 27, none, .bin .quo (.t 26) (.c (.int .u32 10000))⟩,
           ⟨some 28, none, .mov (.t 5)⟩,
           ⟨some 29, none, .bin .rem (.t 28) (.c (.int .u32 10000))⟩,
           ⟨some 6, none, .mov (.t 27)⟩,
           ⟨some 7, none, .mov (.t 29)⟩])
          (.seq
           (.reg [⟨some 30, none, .mov (.t 7)⟩,
            ⟨some 31, none, .bin .quo (.t 30) (.c (.int .u32 100))⟩,
            ⟨some 32, none, .bin .mul (.t 31) (.c (.int .u32 2))⟩,
            ⟨some 33, none, .mov (.t 7)⟩,
            ⟨some 34, none, .bin .rem (.t 33) (.c (.int .u32 100))⟩,
            ⟨some 35, none, .bin .mul (.t 34) (.c (.int .u32 2))⟩,
            ⟨some 8, none, .mov (.t 32)⟩,
            ⟨some 9, none, .mov (.t 35)⟩])
           (.seq
            (.reg [⟨some 36, none, .mov (.t 6)⟩,
             ⟨some 37, none, .bin .quo (.t 36) (.c (.int .u32 100))⟩,
             ⟨some 38, none, .bin .mul (.t 37) (.c (.int .u32 2))⟩,
             ⟨some 39, none, .mov (.t 6)⟩,
             ⟨some 40, none, .bin .rem (.t 39) (.c (.int .u32 100))⟩,
             ⟨some 41, none, .bin .mul (.t 40) (.c (.int .u32 2))⟩,
             ⟨some 10, none, .mov (.t 38)⟩,
             ⟨some 11, none, .mov (.t 41)⟩])
            (.seq
             (.reg [⟨some 42, none, .mov (.t 0)⟩,
              ⟨some 43, none, .mov (.t 4)⟩,
              ⟨some 44, none, .bin .sub (.t 43) (.c (.int .i64 1))⟩,
              ⟨some 45, none, .mov (.t 0)⟩,
              ⟨some 46, none, .mov (.t 4)⟩,
              ⟨some 47, none, .bin .sub (.t 46) (.c (.int .i64 2))⟩,
              ⟨some 48, none, .mov (.t 9)⟩,
              ⟨some 49, none, .bin .add (.t 48) (.c (.int .u32 1))⟩,
              ⟨some 50, none, .idxS (.c (.str [48, 48, 48, 49, 48, 50, 48, 51, 48, 52, 48, 53, 48, 54, 48, 55, 48, 56, 48, 57, 49, 48, 49, 49, 49, 50, 49, 51, 49, 52, 49, 53, 49, 54, 49, 55, 49, 56, 49, 57, 50, 48, 50, 49, 50, 50, 50, 51, 50, 52, 50, 53, 50, 54, 50, 55, 50, 56, 50, 57, 51, 48, 51, 49, 51, 50, 51, 51, 51, 52, 51, 53, 51, 54, 51, 55, 51, 56, 51, 57, 52, 48, 52, 49, 52, 50, 52, 51, 52, 52, 52, 53, 52, 54, 52, 55, 52, 56, 52, 57, 53, 48, 53, 49, 53, 50, 53, 51, 53, 52, 53, 53, 53, 54, 53, 55, 53, 56, 53, 57, 54, 48, 54, 49, 54, 50, 54, 51, 54, 52, 54, 53, 54, 54, 54, 55, 54, 56, 54, 57, 55, 48, 55, 49, 55, 50, 55, 51, 55, 52, 55, 53, 55, 54, 55, 55, 55, 56, 55, 57, 56, 48, 56, 49, 56, 50, 56, 51, 56, 52, 56, 53, 56, 54, 56, 55, 56, 56, 56, 57, 57, 48, 57, 49, 57, 50, 57, 51, 57, 52, 57, 53, 57, 54, 57, 55, 57, 56, 57, 57])) (.t 49)⟩,
              ⟨some 51, none, .mov (.t 9)⟩,
              ⟨some 52, none, .idxS (.c (.str [48, 48, 48, 49, 48, 50, 48, 51, 48, 52, 48, 53, 48, 54, 48, 55, 48, 56, 48, 57, 49, 48, 49, 49, 49, 50, 49, 51, 49, 52, 49, 53, 49, 54, 49, 55, 49, 56, 49, 57, 50, 48, 50, 49, 50, 50, 50, 51, 50, 52, 50, 53, 50, 54, 50, 55, 50, 56, 50, 57, 51, 48, 51, 49, 51, 50, 51, 51, 51, 52, 51, 53, 51, 54, 51, 55, 51, 56, 51, 57, 52, 48, 52, 49, 52, 50, 52, 51, 52, 52, 52, 53, 52, 54, 52, 55, 52, 56, 52, 57, 53, 48, 53, 49, 53, 50, 53, 51, 53, 52, 53, 53, 53, 54, 53, 55, 53, 56, 53, 57, 54, 48, 54, 49, 54, 50, 54, 51, 54, 52, 54, 53, 54, 54, 54, 55, 54, 56, 54, 57, 55, 48, 55, 49, 55, 50, 55, 51, 55, 52, 55, 53, 55, 54, 55, 55, 55, 56, 55, 57, 56, 48, 56, 49, 56, 50, 56, 51, 56, 52, 56, 53, 56, 54, 56, 55, 56, 56, 56, 57, 57, 48, 57, 49, 57, 50, 57, 51, 57, 52, 57, 53, 57, 54, 57, 55, 57, 56, 57, 57])) (.t 51)⟩,
              ⟨some 53, none, .iaddr (.slice 1) (.t 42) (.t 44)⟩,
              ⟨none, none, .store 1 (.t 53) (.t 50)⟩,
              ⟨some 54, none, .iaddr (.slice 1) (.t 45) (.t 47)⟩,
              ⟨none, none, .store 1 (.t 54) (.t 52)⟩])
             (.seq
              (.reg [⟨some 55, none, .mov (.t 0)⟩,
               ⟨some 56, none, .mov (.t 4)⟩,
               ⟨some 57, none, .bin .sub (.t 56) (.c (.int .i64 3))⟩,
               ⟨some 58, none, .mov (.t 0)⟩,
               ⟨some 59, none, .mov (.t 4)⟩,
               ⟨some 60, none, .bin .sub (.t 59) (.c (.int .i64 4))⟩,
               ⟨some 61, none, .mov (.t 8)⟩,
               ⟨some 62, none, .bin .add (.t 61) (.c (.int .u32 1))⟩,
               ⟨some 63, none, .idxS (.c (.str [48, 48, 48, 49, 48, 50, 48, 51, 48, 52, 48, 53, 48, 54, 48, 55, 48, 56, 48, 57, 49, 48, 49, 49, 49, 50, 49, 51, 49, 52, 49, 53, 49, 54, 49, 55, 49, 56, 49, 57, 50, 48, 50, 49, 50, 50, 50, 51, 50, 52, 50, 53, 50, 54, 50, 55, 50, 56, 50, 57, 51, 48, 51, 49, 51, 50, 51, 51, 51, 52, 51, 53, 51, 54, 51, 55, 51, 56, 51, 57, 52, 48, 52, 49, 52, 50, 52, 51, 52, 52, 52, 53, 52, 54, 52, 55, 52, 56, 52, 57, 53, 48, 53, 49, 53, 50, 53, 51, 53, 52, 53, 53, 53, 54, 53, 55, 53, 56, 53, 57, 54, 48, 54, 49, 54, 50, 54, 51, 54, 52, 54, 53, 54, 54, 54, 55, 54, 56, 54, 57, 55, 48, 55, 49, 55, 50, 55, 51, 55, 52, 55, 53, 55, 54, 55, 55, 55, 56, 55, 57, 56, 48, 56, 49, 56, 50, 56, 51, 56, 52, 56, 53, 56, 54, 56, 55, 56, 56, 56, 57, 57, 48, 57, 49, 57, 50, 57, 51, 57, 52, 57, 53, 57, 54, 57, 55, 57, 56, 57, 57])) (.t 62)⟩,
               ⟨some 64, none, .mov (.t 8)⟩,
               ⟨some 65, none, .idxS (.c (.str [48, 48, 48, 49, 48, 50, 48, 51, 48, 52, 48, 53, 48, 54, 48, 55, 48, 56, 48, 57, 49, 48, 49, 49, 49, 50, 49, 51, 49, 52, 49, 53, 49, 54, 49, 55, 49, 56, 49, 57, 50, 48, 50, 49, 50, 50, 50, 51, 50, 52, 50, 53, 50, 54, 50, 55, 50, 56, 50, 57, 51, 48, 51, 49, 51, 50, 51, 51, 51, 52, 51, 53, 51, 54, 51, 55, 51, 56, 51, 57, 52, 48, 52, 49, 52, 50, 52, 51, 52, 52, 52, 53, 52, 54, 52, 55, 52, 56, 52, 57, 53, 48, 53, 49, 53, 50, 53, 51, 53, 52, 53, 53, 53, 54, 53, 55, 53, 56, 53, 57, 54, 48, 54, 49, 54, 50, 54, 51, 54, 52, 54, 53, 54, 54, 54, 55, 54, 56, 54, 57, 55, 48, 55, 49, 55, 50, 55, 51, 55, 52, 55, 53, 55, 54, 55, 55, 55, 56, 55, 57, 56, 48, 56, 49, 56, 50, 56, 51, 56, 52, 56, 53, 56, 54, 56, 55, 56, 56, 56, 57, 57, 48, 57, 49, 57, 50, 57, 51, 57, 52, 57, 53, 57, 54, 57, 55, 57, 56, 57, 57])) (.t 64)⟩,
               ⟨some 66, none, .iaddr (.slice 1) (.t 55) (.t 57)⟩,
               ⟨none, none, .store 1 (.t 66) (.t 63)⟩,
               ⟨some 67, none, .iaddr (.slice 1) (.t 58) (.t 60)⟩,
               ⟨none, none, .store 1 (.t 67) (.t 65)⟩])
              (.seq
               (.reg [⟨some 68, none, .mov (.t 0)⟩,
                ⟨some 69, none, .mov (.t 4)⟩,
                ⟨some 70, none, .bin .sub (.t 69) (.c (.int .i64 5))⟩,
                ⟨some 71, none, .mov (.t 0)⟩,
                ⟨some 72, none, .mov (.t 4)⟩,
                ⟨some 73, none, .bin .sub (.t 72) (.c (.int .i64 6))⟩,
                ⟨some 74, none, .mov (.t 11)⟩,
                ⟨some 75, none, .bin .add (.t 74) (.c (.int .u32 1))⟩,
                ⟨some 76, none, .idxS (.c (.str [48, 48, 48, 49, 48, 50, 48, 51, 48, 52, 48, 53, 48, 54, 48, 55, 48, 56, 48, 57, 49, 48, 49, 49, 49, 50, 49, 51, 49, 52, 49, 53, 49, 54, 49, 55, 49, 56, 49, 57, 50, 48, 50, 49, 50, 50, 50, 51, 50, 52, 50, 53, 50, 54, 50, 55, 50, 56, 50, 57, 51, 48, 51, 49, 51, 50, 51, 51, 51, 52, 51, 53, 51, 54, 51, 55, 51, 56, 51, 57, 52, 48, 52, 49, 52, 50, 52, 51, 52, 52, 52, 53, 52, 54, 52, 55, 52, 56, 52, 57, 53, 48, 53, 49, 53, 50, 53, 51, 53, 52, 53, 53, 53, 54, 53, 55, 53, 56, 53, 57, 54, 48, 54, 49, 54, 50, 54, 51, 54, 52, 54, 53, 54, 54, 54, 55, 54, 56, 54, 57, 55, 48, 55, 49, 55, 50, 55, 51, 55, 52, 55, 53, 55, 54, 55, 55, 55, 56, 55, 57, 56, 48, 56, 49, 56, 50, 56, 51, 56, 52, 56, 53, 56, 54, 56, 55, 56, 56, 56, 57, 57, 48, 57, 49, 57, 50, 57, 51, 57, 52, 57, 53, 57, 54, 57, 55, 57, 56, 57, 57])) (.t 75)⟩,
                ⟨some 77, none, .mov (.t 11)⟩,
                ⟨some 78, none, .idxS (.c (.str [48, 48, 48, 49, 48, 50, 48, 51, 48, 52, 48, 53, 48, 54, 48, 55, 48, 56, 48, 57, 49, 48, 49, 49, 49, 50, 49, 51, 49, 52, 49, 53, 49, 54, 49, 55, 49, 56, 49, 57, 50, 48, 50, 49, 50, 50, 50, 51, 50, 52, 50, 53, 50, 54, 50, 55, 50, 56, 50, 57, 51, 48, 51, 49, 51, 50, 51, 51, 51, 52, 51, 53, 51, 54, 51, 55, 51, 56, 51, 57, 52, 48, 52, 49, 52, 50, 52, 51, 52, 52, 52, 53, 52, 54, 52, 55, 52, 56, 52, 57, 53, 48, 53, 49, 53, 50, 53, 51, 53, 52, 53, 53, 53, 54, 53, 55, 53, 56, 53, 57, 54, 48, 54, 49, 54, 50, 54, 51, 54, 52, 54, 53, 54, 54, 54, 55, 54, 56, 54, 57, 55, 48, 55, 49, 55, 50, 55, 51, 55, 52, 55, 53, 55, 54, 55, 55, 55, 56, 55, 57, 56, 48, 56, 49, 56, 50, 56, 51, 56, 52, 56, 53, 56, 54, 56, 55, 56, 56, 56, 57, 57, 48, 57, 49, 57, 50, 57, 51, 57, 52, 57, 53, 57, 54, 57, 55, 57, 56, 57, 57])) (.t 77)⟩,
                ⟨some 79, none, .iaddr (.slice 1) (.t 68) (.t 70)⟩,
                ⟨none, none, .store 1 (.t 79) (.t 76)⟩,
                ⟨some 80, none, .iaddr (.slice 1) (.t 71) (.t 73)⟩,
                ⟨none, none, .store 1 (.t 80) (.t 78)⟩])
               (.seq
                (.reg [⟨some 81, none, .mov (.t 0)⟩,
                 ⟨some 82, none, .mov (.t 4)⟩,
                 ⟨some 83, none, .bin .sub (.t 82) (.c (.int .i64 7))⟩,
                 ⟨some 84, none, .mov (.t 0)⟩,
                 ⟨some 85, none, .mov (.t 4)⟩,
                 ⟨some 86, none, .bin .sub (.t 85) (.c (.int .i64 8))⟩,
                 ⟨some 87, none, .mov (.t 10)⟩,
                 ⟨some 88, none, .bin .add (.t 87) (.c (.int .u32 1))⟩,
                 ⟨some 89, none, .idxS (.c (.str [48, 48, 48, 49, 48, 50, 48, 51, 48, 52, 48, 53, 48, 54, 48, 55, 48, 56, 48, 57, 49, 48, 49, 49, 49, 50, 49, 51, 49, 52, 49, 53, 49, 54, 49, 55, 49, 56, 49, 57, 50, 48, 50, 49, 50, 50, 50, 51, 50, 52, 50, 53, 50, 54, 50, 55, 50, 56, 50, 57, 51, 48, 51, 49, 51, 50, 51, 51, 51, 52, 51, 53, 51, 54, 51, 55, 51, 56, 51, 57, 52, 48, 52, 49, 52, 50, 52, 51, 52, 52, 52, 53, 52, 54, 52, 55, 52, 56, 52, 57, 53, 48, 53, 49, 53, 50, 53, 51, 53, 52, 53, 53, 53, 54, 53, 55, 53, 56, 53, 57, 54, 48, 54, 49, 54, 50, 54, 51, 54, 52, 54, 53, 54, 54, 54, 55, 54, 56, 54, 57, 55, 48, 55, 49, 55, 50, 55, 51, 55, 52, 55, 53, 55, 54, 55, 55, 55, 56, 55, 57, 56, 48, 56, 49, 56, 50, 56, 51, 56, 52, 56, 53, 56, 54, 56, 55, 56, 56, 56, 57, 57, 48, 57, 49, 57, 50, 57, 51, 57, 52, 57, 53, 57, 54, 57, 55, 57, 56, 57, 57])) (.t 88)⟩,
                 ⟨some 90, none, .mov (.t 10)⟩,
                 ⟨some 91, none, .idxS (.c (.str [48, 48, 48, 49, 48, 50, 48, 51, 48, 52, 48, 53, 48, 54, 48, 55, 48, 56, 48, 57, 49, 48, 49, 49, 49, 50, 49, 51, 49, 52, 49, 53, 49, 54, 49, 55, 49, 56, 49, 57, 50, 48, 50, 49, 50, 50, 50, 51, 50, 52, 50, 53, 50, 54, 50, 55, 50, 56, 50, 57, 51, 48, 51, 49, 51, 50, 51, 51, 51, 52, 51, 53, 51, 54, 51, 55, 51, 56, 51, 57, 52, 48, 52, 49, 52, 50, 52, 51, 52, 52, 52, 53, 52, 54, 52, 55, 52, 56, 52, 57, 53, 48, 53, 49, 53, 50, 53, 51, 53, 52, 53, 53, 53, 54, 53, 55, 53, 56, 53, 57, 54, 48, 54, 49, 54, 50, 54, 51, 54, 52, 54, 53, 54, 54, 54, 55, 54, 56, 54, 57, 55, 48, 55, 49, 55, 50, 55, 51, 55, 52, 55, 53, 55, 54, 55, 55, 55, 56, 55, 57, 56, 48, 56, 49, 56, 50, 56, 51, 56, 52, 56, 53, 56, 54, 56, 55, 56, 56, 56, 57, 57, 48, 57, 49, 57, 50, 57, 51, 57, 52, 57, 53, 57, 54, 57, 55, 57, 56, 57, 57])) (.t 90)⟩,
                 ⟨some 92, none, .iaddr (.slice 1) (.t 81) (.t 83)⟩,
                 ⟨none, none, .store 1 (.t 92) (.t 89)⟩,
                 ⟨some 93, none, .iaddr (.slice 1) (.t 84) (.t 86)⟩,
                 ⟨none, none, .store 1 (.t 93) (.t 91)⟩])
                (.reg [⟨some 94, none, .mov (.t 4)⟩,
                 ⟨some 95, none, .bin .sub (.t 94) (.c (.int .i64 8))⟩,
                 ⟨some 4, none, .mov (.t 95)⟩]))))))))))))
/-- internal/strconv.formatBase10 -/
def c74 : AFn := ⟨2, 167, [],
 (.seq
  (.reg [⟨some 17, none, .mov (.t 0)⟩,
   ⟨some 18, none, .len (.t 17)⟩,
   ⟨some 4, none, .mov (.t 18)⟩])
  (.seq
   (.block 0
    (.loop [0, 1, 4]
     c74b0))
   (.seq
    (.reg [⟨some 96, none, .mov (.t 1)⟩,
     ⟨some 97, none, .conv (.int .u32) (.t 96)⟩,
     ⟨some 12, none, .mov (.t 97)⟩])
    (.seq
     (.seq
      (.reg [⟨some 98, none, .mov (.t 4)⟩,
       ⟨some 99, none, .bin .geq (.t 98) (.c (.int .i64 4))⟩])
      (.cond (.t 99)
       (.seq
        (.reg [⟨some 100, none, .mov (.t 12)⟩,
         ⟨some 101, none, .bin .rem (.t 100) (.c (.int .u32 10000))⟩,
         ⟨some 13, none, .mov (.t 101)⟩])
        (.seq
         (.reg [⟨some 102, none, .mov (.t 12)⟩,
          ⟨some 103, none, .bin .quo (.t 102) (.c (.int .u32 10000))⟩,
          ⟨some 12, none, .mov (.t 103)⟩])
         (.seq
          (.reg [⟨some 104, none, .mov (.t 13)⟩,
           ⟨some 105, none, .bin .quo (.t 104) (.c (.int .u32 100))⟩,
           ⟨some 106, none, .bin .mul (.t 105) (.c (.int .u32 2))⟩,
           ⟨some 107, none, .mov (.t 13)⟩,
           ⟨some 108, none, .bin .rem (.t 107) (.c (.int .u32 100))⟩,
           ⟨some 109, none, .bin .mul (.t 108) (.c (.int .u32 2))⟩,
           ⟨some 14, none, .mov (.t 106)⟩,
           ⟨some 15, none, .mov (.t 109)⟩])
          (.seq
           (.reg [⟨some 110, none, .mov (.t 0)⟩,
            ⟨some 111, none, .mov (.t 4)⟩,
            ⟨some 112, none, .bin .sub (.t 111) (.c (.int .i64 1))⟩,
            ⟨some 113, none, .mov (.t 0)⟩,
            ⟨some 114, none, .mov (.t 4)⟩,
            ⟨some 115, none, .bin .sub (.t 114) (.c (.int .i64 2))⟩,
            ⟨some 116, none, .mov (.t 15)⟩,
            ⟨some 117, none, .bin .add (.t 116) (.c (.int .u32 1))⟩,
            ⟨some 118, none, .idxS (.c (.str [48, 48, 48, 49, 48, 50, 48, 51, 48, 52, 48, 53, 48, 54, 48, 55, 48, 56, 48, 57, 49, 48, 49, 49, 49, 50, 49, 51, 49, 52, 49, 53, 49, 54, 49, 55, 49, 56, 49, 57, 50, 48, 50, 49, 50, 50, 50, 51, 50, 52, 50, 53, 50, 54, 50, 55, 50, 56, 50, 57, 51, 48, 51, 49, 51, 50, 51, 51, 51, 52, 51, 53, 51, 54, 51, 55, 51, 56, 51, 57, 52, 48, 52, 49, 52, 50, 52, 51, 52, 52, 52, 53, 52, 54, 52, 55, 52, 56, 52, 57, 53, 48, 53, 49, 53, 50, 53, 51, 53, 52, 53, 53, 53, 54, 53, 55, 53, 56, 53, 57, 54, 48, 54, 49, 54, 50, 54, 51, 54, 52, 54, 53, 54, 54, 54, 55, 54, 56, 54, 57, 55, 48, 55, 49, 55, 50, 55, 51, 55, 52, 55, 53, 55, 54, 55, 55, 55, 56, 55, 57, 56, 48, 56, 49, 56, 50, 56, 51, 56, 52, 56, 53, 56, 54, 56, 55, 56, 56, 56, 57, 57, 48, 57, 49, 57, 50, 57, 51, 57, 52, 57, 53, 57, 54, 57, 55, 57, 56, 57, 57])) (.t 117)⟩,
            ⟨some 119, none, .mov (.t 15)⟩,
            ⟨some 120, none, .idxS (.c (.str [48, 48, 48, 49, 48, 50, 48, 51, 48, 52, 48, 53, 48, 54, 48, 55, 48, 56, 48, 57, 49, 48, 49, 49, 49, 50, 49, 51, 49, 52, 49, 53, 49, 54, 49, 55, 49, 56, 49, 57, 50, 48, 50, 49, 50, 50, 50, 51, 50, 52, 50, 53, 50, 54, 50, 55, 50, 56, 50, 57, 51, 48, 51, 49, 51, 50, 51, 51, 51, 52, 51, 53, 51, 54, 51, 55, 51, 56, 51, 57, 52, 48, 52, 49, 52, 50, 52, 51, 52, 52, 52, 53, 52, 54, 52, 55, 52, 56, 52, 57, 53, 48, 53, 49, 53, 50, 53, 51, 53, 52, 53, 53, 53, 54, 53, 55, 53, 56, 53, 57, 54, 48, 54, 49, 54, 50, 54, 51, 54, 52, 54, 53, 54, 54, 54, 55, 54, 56, 54, 57, 55, 48, 55, 49, 55, 50, 55, 51, 55, 52, 55, 53, 55, 54, 55, 55, 55, 56, 55, 57, 56, 48, 56, 49, 56, 50, 56, 51, 56, 52, 56, 53, 56, 54, 56, 55, 56, 56, 56, 57, 57, 48, 57, 49, 57, 50, 57, 51, 57, 52, 57, 53, 57, 54, 57, 55, 57, 56, 57, 57])) (.t 119)⟩,
            ⟨some 121, none, .iaddr (.slice 1) (.t 110) (.t 112)⟩,
            ⟨none, none, .store 1 (.t 121) (.t 118)⟩,
            ⟨some 122, none, .iaddr (.slice 1) (.t 113) (.t 115)⟩,
            ⟨none, none, .store 1 (.t 122) (.t 120)⟩])
           (.seq
            (.reg [⟨some 123, none, .mov (.t 0)⟩,
             ⟨some 124, none, .mov (.t 4)⟩,
             ⟨some 125, none, .bin .sub (.t 124) (.c (.int .i64 3))⟩,
             ⟨some 126, none, .mov (.t 0)⟩,
             ⟨some 127, none, .mov (.t 4)⟩,
             ⟨some 128, none, .bin .sub (.t 127) (.c (.int .i64 4))⟩,
             ⟨some 129, none, .mov (.t 14)⟩,
             ⟨some 130, none, .bin .add (.t 129) (.c (.int .u32 1))⟩,
             ⟨some 131, none, .idxS (.c (.str [48, 48, 48, 49, 48, 50, 48, 51, 48, 52, 48, 53, 48, 54, 48, 55, 48, 56, 48, 57, 49, 48, 49, 49, 49, 50, 49, 51, 49, 52, 49, 53, 49, 54, 49, 55, 49, 56, 49, 57, 50, 48, 50, 49, 50, 50, 50, 51, 50, 52, 50, 53, 50, 54, 50, 55, 50, 56, 50, 57, 51, 48, 51, 49, 51, 50, 51, 51, 51, 52, 51, 53, 51, 54, 51, 55, 51, 56, 51, 57, 52, 48, 52, 49, 52, 50, 52, 51, 52, 52, 52, 53, 52, 54, 52, 55, 52, 56, 52, 57, 53, 48, 53, 49, 53, 50, 53, 51, 53, 52, 53, 53, 53, 54, 53, 55, 53, 56, 53, 57, 54, 48, 54, 49, 54, 50, 54, 51, 54, 52, 54, 53, 54, 54, 54, 55, 54, 56, 54, 57, 55, 48, 55, 49, 55, 50, 55, 51, 55, 52, 55, 53, 55, 54, 55, 55, 55, 56, 55, 57, 56, 48, 56, 49, 56, 50, 56, 51, 56, 52, 56, 53, 56, 54, 56, 55, 56, 56, 56, 57, 57, 48, 57, 49, 57, 50, 57, 51, 57, 52, 57, 53, 57, 54, 57, 55, 57, 56, 57, 57])) (.t 130)⟩,
             ⟨some 132, none, .mov (.t 14)⟩,
             ⟨some 133, none, .idxS (.c (.str [48, 48, 48, 49, 48, 50, 48, 51, 48, 52, 48, 53, 48, 54, 48, 55, 48, 56, 48, 57, 49, 48, 49, 49, 49, 50, 49, 51, 49, 52, 49, 53, 49, 54, 49, 55, 49, 56, 49, 57, 50, 48, 50, 49, 50, 50, 50, 51, 50, 52, 50, 53, 50, 54, 50, 55, 50, 56, 50, 57, 51, 48, 51, 49, 51, 50, 51, 51, 51, 52, 51, 53, 51, 54, 51, 55, 51, 56, 51, 57, 52, 48, 52, 49, 52, 50, 52, 51, 52, 52, 52, 53, 52, 54, 52, 55, 52, 56, 52, 57, 53, 48, 53, 49, 53, 50, 53, 51, 53, 52, 53, 53, 53, 54, 53, 55, 53, 56, 53, 57, 54, 48, 54, 49, 54, 50, 54, 51, 54, 52, 54, 53, 54, 54, 54, 55, 54, 56, 54, 57, 55, 48, 55, 49, 55, 50, 55, 51, 55, 52, 55, 53, 55, 54, 55, 55, 55, 56, 55, 57, 56, 48, 56, 49, 56, 50, 56, 51, 56, 52, 56, 53, 56, 54, 56, 55, 56, 56, 56, 57, 57, 48, 57, 49, 57, 50, 57, 51, 57, 52, 57, 53, 57, 54, 57, 55, 57, 56, 57, 57])) (.t 132)⟩,
             ⟨some 134, none, .iaddr (.slice 1) (.t 123) (.t 125)⟩,
             ⟨none, none, .store 1 (.t 134) (.t 131)⟩,
             ⟨some 135, none, .iaddr (.slice 1) (.t 126) (.t 128)⟩,
             ⟨none, none, .store 1 (.t 135) (.t 133)⟩])
            (.reg [⟨some 136, none, .mov (.t 4)⟩,
             ⟨some 137, none, .bin .sub (.t 136) (.c (.int .i64 4))⟩,
             ⟨some 4, none, .mov (.t 137)⟩]))))))
       .skip))
     (.seq
      (.seq
       (.reg [⟨some 138, none, .mov (.t 4)⟩,
        ⟨some 139, none, .bin .geq (.t 138) (.c (.int .i64 2))⟩])
       (.cond (.t 139)
        (.seq
         (.reg [⟨some 140, none, .mov (.t 12)⟩,
          ⟨some 141, none, .bin .rem (.t 140) (.c (.int .u32 100))⟩,
          ⟨some 142, none, .bin .mul (.t 141) (.c (.int .u32 2))⟩,
          ⟨some 16, none, .mov (.t 142)⟩])
         (.seq
          (.reg [⟨some 143, none, .mov (.t 12)⟩,
           ⟨some 144, none, .bin .quo (.t 143) (.c (.int .u32 100))⟩,
           ⟨some 12, none, .mov (.t 144)⟩])
          (.seq
           (.reg [⟨some 145, none, .mov (.t 0)⟩,
            ⟨some 146, none, .mov (.t 4)⟩,
            ⟨some 147, none, .bin .sub (.t 146) (.c (.int .i64 1))⟩,
            ⟨some 148, none, .mov (.t 0)⟩,
            ⟨some 149, none, .mov (.t 4)⟩,
            ⟨some 150, none, .bin .sub (.t 149) (.c (.int .i64 2))⟩,
            ⟨some 151, none, .mov (.t 16)⟩,
            ⟨some 152, none, .bin .add (.t 151) (.c (.int .u32 1))⟩,
            ⟨some 153, none, .idxS (.c (.str [48, 48, 48, 49, 48, 50, 48, 51, 48, 52, 48, 53, 48, 54, 48, 55, 48, 56, 48, 57, 49, 48, 49, 49, 49, 50, 49, 51, 49, 52, 49, 53, 49, 54, 49, 55, 49, 56, 49, 57, 50, 48, 50, 49, 50, 50, 50, 51, 50, 52, 50, 53, 50, 54, 50, 55, 50, 56, 50, 57, 51, 48, 51, 49, 51, 50, 51, 51, 51, 52, 51, 53, 51, 54, 51, 55, 51, 56, 51, 57, 52, 48, 52, 49, 52, 50, 52, 51, 52, 52, 52, 53, 52, 54, 52, 55, 52, 56, 52, 57, 53, 48, 53, 49, 53, 50, 53, 51, 53, 52, 53, 53, 53, 54, 53, 55, 53, 56, 53, 57, 54, 48, 54, 49, 54, 50, 54, 51, 54, 52, 54, 53, 54, 54, 54, 55, 54, 56, 54, 57, 55, 48, 55, 49, 55, 50, 55, 51, 55, 52, 55, 53, 55, 54, 55, 55, 55, 56, 55, 57, 56, 48, 56, 49, 56, 50, 56, 51, 56, 52, 56, 53, 56, 54, 56, 55, 56, 56, 56, 57, 57, 48, 57, 49, 57, 50, 57, 51, 57, 52, 57, 53, 57, 54, 57, 55, 57, 56, 57, 57])) (.t 152)⟩,
            ⟨some 154, none, .mov (.t 16)⟩,
            ⟨some 155, none, .idxS (.c (.str [48, 48, 48, 49, 48, 50, 48, 51, 48, 52, 48, 53, 48, 54, 48, 55, 48, 56, 48, 57, 49, 48, 49, 49, 49, 50, 49, 51, 49, 52, 49, 53, 49, 54, 49, 55, 49, 56, 49, 57, 50, 48, 50, 49, 50, 50, 50, 51, 50, 52, 50, 53, 50, 54, 50, 55, 50, 56, 50, 57, 51, 48, 51, 49, 51, 50, 51, 51, 51, 52, 51, 53, 51, 54, 51, 55, 51, 56, 51, 57, 52, 48, 52, 49, 52, 50, 52, 51, 52, 52, 52, 53, 52, 54, 52, 55, 52, 56, 52, 57, 53, 48, 53, 49, 53, 50, 53, 51, 53, 52, 53, 53, 53, 54, 53, 55, 53, 56, 53, 57, 54, 48, 54, 49, 54, 50, 54, 51, 54, 52, 54, 53, 54, 54, 54, 55, 54, 56, 54, 57, 55, 48, 55, 49, 55, 50, 55, 51, 55, 52, 55, 53, 55, 54, 55, 55, 55, 56, 55, 57, 56, 48, 56, 49, 56, 50, 56, 51, 56, 52, 56, 53, 56, 54, 56, 55, 56, 56, 56, 57, 57, 48, 57, 49, 57, 50, 57, 51, 57, 52, 57, 53, 57, 54, 57, 55, 57, 56, 57, 57])) (.t 154)⟩,
            ⟨some 156, none, .iaddr (.slice 1) (.t 145) (.t 147)⟩,
            ⟨none, none, .store 1 (.t 156) (.t 153)⟩,
            ⟨some 157, none, .iaddr (.slice 1) (.t 148) (.t 150)⟩,
            ⟨none, none, .store 1 (.t 157) (.t 155)⟩])
           (.reg [⟨some 158, none, .mov (.t 4)⟩,
            ⟨some 159, none, .bin .sub (.t 158) (.c (.int .i64 2))⟩,
            ⟨some 4, none, .mov (.t 159)⟩]))))
        .skip))
      (.seq
       (.reg [⟨some 160, none, .mov (.t 4)⟩,
        ⟨some 161, none, .bin .gtr (.t 160) (.c (.int .i64 0))⟩])
       (.cond (.t 161)
        (.reg [⟨some 162, none, .mov (.t 0)⟩,
         ⟨some 163, none, .mov (.t 12)⟩,
         ⟨some 164, none, .bin .add (.c (.int .u32 48)) (.t 163)⟩,
         ⟨some 165, none, .conv (.int .u8) (.t 164)⟩,
         ⟨some 166, none, .iaddr (.slice 1) (.t 162) (.c (.int .i64 0))⟩,
         ⟨none, none, .store 1 (.t 166) (.t 165)⟩])
        .skip))))))), none⟩
def k74 : List (List Nat) := [[0, 1, 4]]
def o74 : List Nat := [1000049, 1000050, 3000000]
def c75b0 : AC := (.seq
              (.seq
               (.reg [⟨some 66, none, .mov (.t 1)⟩,
                ⟨some 67, none, .mov (.t 17)⟩,
                ⟨some 68, none, .bin .geq (.t 66) (.t 67)⟩])
               (.cond (.t 68)
                .skip
                (.exit 2)))
              (.block 3
               (.seq
                (.reg [⟨some 69, none, .mov (.t 13)⟩,
                 ⟨some 70, none, .bin .sub (.t 69) (.c (.int .i64 1))⟩,
                 ⟨some 13, none, .mov (.t 70)⟩])
                (.seq
                 (.reg [⟨some 71, none, .mov (.t 1)⟩,
                  ⟨some 72, none, .mov (.t 17)⟩,
                  ⟨some 73, none, .bin .quo (.t 71) (.t 72)⟩,
                  ⟨some 18, none, .mov (.t 73)⟩])
                 (.seq
                  (.reg [⟨some 74, none, .mov (.t 13)⟩,
                   ⟨some 75, none, .mov (.t 1)⟩,
                   ⟨some 76, none, .mov (.t 18)⟩,
                   ⟨some 77, none, .mov (.t 17)⟩,
                   ⟨some 78, none, .bin .mul (.t 76) (.t 77)⟩,
                   ⟨some 79, none, .bin .sub (.t 75) (.t 78)⟩,
                   ⟨some 80, none, .idxS (.c (.str [48, 49, 50, 51, 52, 53, 54, 55, 56, 57, 97, 98, 99, 100, 101, 102, 103, 104, 105, 106, 107, 108, 109, 110, 111, 112, 113, 114, 115, 116, 117, 118, 119, 120, 121, 122])) (.t 79)⟩,
                   ⟨some 81, none, .iaddr (.array 65 1) (.t 12) (.t 74)⟩,
                   ⟨none, none, .store 1 (.t 81) (.t 80)⟩])
                  (.reg [⟨some 82, none, .mov (.t 18)⟩,
                   ⟨some 1, none, .mov (.t 82)⟩]))))))
def c75b1 : AC := (.seq
                (.seq
                 (.reg [⟨some 44, none, .mov (.t 1)⟩,
                  ⟨some 45, none, .mov (.t 15)⟩,
                  ⟨some 46, none, .bin .geq (.t 44) (.t 45)⟩])
                 (.cond (.t 46)
                  .skip
                  (.exit 0)))
                (.block 1
                 (.seq
                  (.reg [⟨some 47, none, .mov (.t 13)⟩,
                   ⟨some 48, none, .bin .sub (.t 47) (.c (.int .i64 1))⟩,
                   ⟨some 13, none, .mov (.t 48)⟩])
                  (.seq
                   (.reg [⟨some 49, none, .mov (.t 13)⟩,
                    ⟨some 50, none, .mov (.t 1)⟩,
                    ⟨some 51, none, .mov (.t 16)⟩,
                    ⟨some 52, none, .bin .and (.t 50) (.t 51)⟩,
                    ⟨some 53, none, .idxS (.c (.str [48, 49, 50, 51, 52, 53, 54, 55, 56, 57, 97, 98, 99, 100, 101, 102, 103, 104, 105, 106, 107, 108, 109, 110, 111, 112, 113, 114, 115, 116, 117, 118, 119, 120, 121, 122])) (.t 52)⟩,
                    ⟨some 54, none, .iaddr (.array 65 1) (.t 12) (.t 49)⟩,
                    ⟨none, none, .store 1 (.t 54) (.t 53)⟩])
                   (.reg [⟨some 55, none, .mov (.t 1)⟩,
                    ⟨some 56, none, .mov (.t 14)⟩,
                    ⟨some 57, none, .bin .shr (.t 55) (.t 56)⟩,
                    ⟨some 1, none, .mov (.t 57)⟩])))))
/-- internal/strconv.formatBits -/
def c75 : AFn := ⟨5, 102, [.t 10, .t 11],
 (.seq
  (.reg [⟨some 10, none, .nilv 1⟩,
   ⟨some 11, none, .mov (.c (.str []))⟩])
  (.seq
   (.seq
    (.reg [⟨some 19, none, .mov (.t 2)⟩,
     ⟨some 20, none, .bin .lss (.t 19) (.c (.int .i64 2))⟩,
     ⟨some 21, none, .mov (.t 20)⟩,
     ⟨some 22, some (21, false), .mov (.t 2)⟩,
     ⟨some 23, some (21, false), .bin .eql (.t 22) (.c (.int .i64 10))⟩,
     ⟨some 24, none, .pick (.t 21) (.c (.bool true)) (.t 23)⟩,
     ⟨some 25, none, .mov (.t 24)⟩,
     ⟨some 26, some (25, false), .mov (.t 2)⟩,
     ⟨some 27, some (25, false), .bin .gtr (.t 26) (.c (.int .i64 36))⟩,
     ⟨some 28, none, .pick (.t 25) (.c (.bool true)) (.t 27)⟩])
    (.cond (.t 28)
     .stuck
     .skip))
   (.seq
    (.reg [⟨some 12, none, .alloca 1 65 [(.int .u8 0), (.int .u8 0), (.int .u8 0), (.int .u8 0), (.int .u8 0), (.int .u8 0), (.int .u8 0), (.int .u8 0), (.int .u8 0), (.int .u8 0), (.int .u8 0), (.int .u8 0), (.int .u8 0), (.int .u8 0), (.int .u8 0), (.int .u8 0), (.int .u8 0), (.int .u8 0), (.int .u8 0), (.int .u8 0), (.int .u8 0), (.int .u8 0), (.int .u8 0), (.int .u8 0), (.int .u8 0), (.int .u8 0), (.int .u8 0), (.int .u8 0), (.int .u8 0), (.int .u8 0), (.int .u8 0), (.int .u8 0), (.int .u8 0), (.int .u8 0), (.int .u8 0), (.int .u8 0), (.int .u8 0), (.int .u8 0), (.int .u8 0), (.int .u8 0), (.int .u8 0), (.int .u8 0), (.int .u8 0), (.int .u8 0), (.int .u8 0), (.int .u8 0), (.int .u8 0), (.int .u8 0), (.int .u8 0), (.int .u8 0), (.int .u8 0), (.int .u8 0), (.int .u8 0), (.int .u8 0), (.int .u8 0), (.int .u8 0), (.int .u8 0), (.int .u8 0), (.int .u8 0), (.int .u8 0), (.int .u8 0), (.int .u8 0), (.int .u8 0), (.int .u8 0), (.int .u8 0)]⟩])
    (.seq
     (.reg [⟨some 13, none, .mov (.c (.int .i64 65))⟩])
     (.seq
      (.seq
       (.reg [⟨some 30, none, .mov (.t 3)⟩])
       (.cond (.t 30)
        (.reg [⟨some 31, none, .mov (.t 1)⟩,
         ⟨some 32, none, .un .neg (.t 31)⟩,
         ⟨some 1, none, .mov (.t 32)⟩])
        .skip))
      (.seq
       (.seq
        (.reg [⟨some 33, none, .mov (.t 2)⟩,
         ⟨some 34, none, .call false 89 [(.t 33)]⟩])
        (.cond (.t 34)
         (.seq
          (.reg [⟨some 35, none, .mov (.t 2)⟩,
           ⟨some 36, none, .conv (.int .u64) (.t 35)⟩,
           ⟨some 37, none, .call false 90 [(.t 36)]⟩,
           ⟨some 38, none, .conv (.int .u64) (.t 37)⟩,
           ⟨some 14, none, .mov (.t 38)⟩])
          (.seq
           (.reg [⟨some 39, none, .mov (.t 2)⟩,
            ⟨some 40, none, .conv (.int .u64) (.t 39)⟩,
            ⟨some 15, none, .mov (.t 40)⟩])
           (.seq
            (.reg [⟨some 41, none, .mov (.t 2)⟩,
             ⟨some 42, none, .conv (.int .u64) (.t 41)⟩,
             ⟨some 43, none, .bin .sub (.t 42) (.c (.int .u64 1))⟩,
             ⟨some 16, none, .mov (.t 43)⟩])
            (.seq
             (.block 0
              (.loop [1, 3, 4, 12, 13, 14, 15, 16]
               c75b1))
             (.seq
              (.reg [⟨some 58, none, .mov (.t 13)⟩,
               ⟨some 59, none, .bin .sub (.t 58) (.c (.int .i64 1))⟩,
               ⟨some 13, none, .mov (.t 59)⟩])
              (.reg [⟨some 60, none, .mov (.t 13)⟩,
               ⟨some 61, none, .mov (.t 1)⟩,
               ⟨some 62, none, .idxS (.c (.str [48, 49, 50, 51, 52, 53, 54, 55, 56, 57, 97, 98, 99, 100, 101, 102, 103, 104, 105, 106, 107, 108, 109, 110, 111, 112, 113, 114, 115, 116, 117, 118, 119, 120, 121, 122])) (.t 61)⟩,
               ⟨some 63, none, .iaddr (.array 65 1) (.t 12) (.t 60)⟩,
               ⟨none, none, .store 1 (.t 63) (.t 62)⟩]))))))
         (.seq
          (.reg [⟨some 64, none, .mov (.t 2)⟩,
           ⟨some 65, none, .conv (.int .u64) (.t 64)⟩,
           ⟨some 17, none, .mov (.t 65)⟩])
          (.seq
           (.block 2
            (.loop [1, 3, 4, 12, 13, 17]
             c75b0))
           (.seq
            (.reg [⟨some 83, none, .mov (.t 13)⟩,
             ⟨some 84, none, .bin .sub (.t 83) (.c (.int .i64 1))⟩,
             ⟨some 13, none, .mov (.t 84)⟩])
            (.reg [⟨some 85, none, .mov (.t 13)⟩,
             ⟨some 86, none, .mov (.t 1)⟩,
             ⟨some 87, none, .idxS (.c (.str [48, 49, 50, 51, 52, 53, 54, 55, 56, 57, 97, 98, 99, 100, 101, 102, 103, 104, 105, 106, 107, 108, 109, 110, 111, 112, 113, 114, 115, 116, 117, 118, 119, 120, 121, 122])) (.t 86)⟩,
             ⟨some 88, none, .iaddr (.array 65 1) (.t 12) (.t 85)⟩,
             ⟨none, none, .store 1 (.t 88) (.t 87)⟩]))))))
       (.seq
        (.seq
         (.reg [⟨some 89, none, .mov (.t 3)⟩])
         (.cond (.t 89)
          (.seq
           (.reg [⟨some 90, none, .mov (.t 13)⟩,
            ⟨some 91, none, .bin .sub (.t 90) (.c (.int .i64 1))⟩,
            ⟨some 13, none, .mov (.t 91)⟩])
           (.reg [⟨some 92, none, .mov (.t 13)⟩,
            ⟨some 93, none, .iaddr (.array 65 1) (.t 12) (.t 92)⟩,
            ⟨none, none, .store 1 (.t 93) (.c (.int .u8 45))⟩]))
          .skip))
        (.seq
         (.seq
          (.reg [⟨some 94, none, .mov (.t 4)⟩])
          (.cond (.t 94)
           (.seq
            .stuck
            .ret)
           .skip))
         (.seq
          .stuck
          .ret))))))))), none⟩
def k75 : List (List Nat) := [[1, 3, 4, 12, 13, 14, 15, 16], [1, 3, 4, 12, 13, 17]]
def o75 : List Nat := [1000049, 1000050, 3000000]
/-- internal/strconv.ParseInt -/
def c76 : AFn := ⟨3, 73, [.t 6, .t 7],
 (.seq
  (.reg [⟨some 6, none, .mov (.c (.int .i64 0))⟩,
   ⟨some 7, none, .mov (.c (.v .nilIface))⟩])
  (.seq
   (.seq
    (.reg [⟨some 12, none, .mov (.t 0)⟩,
     ⟨some 13, none, .bin .eql (.t 12) (.c (.str []))⟩])
    (.cond (.t 13)
     (.seq
      .stuck
      .ret)
     .skip))
   (.seq
    (.reg [⟨some 8, none, .mov (.c (.bool false))⟩])
    (.seq
     (.seq
      (.reg [⟨some 15, none, .mov (.t 0)⟩,
       ⟨some 16, none, .idxS (.t 15) (.c (.int .i64 0))⟩])
      (.block 0
       (.seq
        (.reg [⟨some 18, none, .bin .eql (.t 16) (.c (.int .u8 43))⟩,
         ⟨some 17, none, .mov (.t 18)⟩])
        (.cond (.t 17)
         (.reg [⟨some 19, none, .mov (.t 0)⟩,
          ⟨some 20, none, .slc .string (.t 19) (some (.c (.int .i64 1))) none none⟩,
          ⟨some 0, none, .mov (.t 20)⟩])
         (.seq
          (.reg [⟨some 22, none, .bin .eql (.t 16) (.c (.int .u8 45))⟩,
           ⟨some 21, none, .mov (.t 22)⟩])
          (.cond (.t 21)
           (.seq
            (.reg [⟨some 23, none, .mov (.t 0)⟩,
             ⟨some 24, none, .slc .string (.t 23) (some (.c (.int .i64 1))) none none⟩,
             ⟨some 0, none, .mov (.t 24)⟩])
            (.reg [⟨some 8, none, .mov (.c (.bool true))⟩]))
           .skip))))))
     (.seq
      (.reg [⟨some 9, none, .mov (.c (.int .u64 0))⟩])
      (.seq
       (.reg [⟨some 26, none, .mov (.t 0)⟩,
        ⟨some 27, none, .mov (.t 1)⟩,
        ⟨some 28, none, .mov (.t 2)⟩,
        ⟨some 29, none, .call false 91 [(.t 26), (.t 27), (.t 28)]⟩,
        ⟨some 25, none, .mov (.t 29)⟩,
        ⟨some 30, none, .ext (.t 25) 0⟩,
        ⟨some 31, none, .ext (.t 25) 1⟩,
        ⟨some 9, none, .mov (.t 30)⟩,
        ⟨some 7, none, .mov (.t 31)⟩])
       (.seq
        (.seq
         .stuck
         (.cond (.t 38)
          (.seq
           (.reg [⟨some 39, none, .mov (.t 7)⟩,
            ⟨some 6, none, .mov (.c (.int .i64 0))⟩,
            ⟨some 7, none, .mov (.t 39)⟩])
           .ret)
          .skip))
        (.seq
         (.seq
          (.reg [⟨some 40, none, .mov (.t 2)⟩,
           ⟨some 41, none, .bin .eql (.t 40) (.c (.int .i64 0))⟩])
          (.cond (.t 41)
           (.reg [⟨some 2, none, .mov (.c (.int .i64 64))⟩])
           .skip))
         (.seq
          (.reg [⟨some 42, none, .mov (.t 2)⟩,
           ⟨some 43, none, .bin .sub (.t 42) (.c (.int .i64 1))⟩,
           ⟨some 44, none, .conv (.int .u64) (.t 43)⟩,
           ⟨some 45, none, .bin .shl (.c (.int .u64 1)) (.t 44)⟩,
           ⟨some 10, none, .mov (.t 45)⟩])
          (.seq
           (.seq
            (.reg [⟨some 46, none, .mov (.t 8)⟩,
             ⟨some 47, none, .un .not (.t 46)⟩,
             ⟨some 48, none, .mov (.t 47)⟩,
             ⟨some 49, some (48, true), .mov (.t 9)⟩,
             ⟨some 50, some (48, true), .mov (.t 10)⟩,
             ⟨some 51, some (48, true), .bin .geq (.t 49) (.t 50)⟩,
             ⟨some 52, none, .pick (.t 48) (.t 51) (.c (.bool false))⟩])
            (.cond (.t 52)
             (.seq
              .stuck
              .ret)
             .skip))
           (.seq
            (.seq
             (.reg [⟨some 57, none, .mov (.t 8)⟩,
              ⟨some 58, none, .mov (.t 57)⟩,
              ⟨some 59, some (58, true), .mov (.t 9)⟩,
              ⟨some 60, some (58, true), .mov (.t 10)⟩,
              ⟨some 61, some (58, true), .bin .gtr (.t 59) (.t 60)⟩,
              ⟨some 62, none, .pick (.t 58) (.t 61) (.c (.bool false))⟩])
             (.cond (.t 62)
              (.seq
               .stuck
               .ret)
              .skip))
            (.seq
             (.reg [⟨some 67, none, .mov (.t 9)⟩,
              ⟨some 68, none, .conv (.int .i64) (.t 67)⟩,
              ⟨some 11, none, .mov (.t 68)⟩])
             (.seq
              (.seq
               (.reg [⟨some 69, none, .mov (.t 8)⟩])
               (.cond (.t 69)
                (.reg [⟨some 70, none, .mov (.t 11)⟩,
                 ⟨some 71, none, .un .neg (.t 70)⟩,
                 ⟨some 11, none, .mov (.t 71)⟩])
                .skip))
              (.seq
               (.reg [⟨some 72, none, .mov (.t 11)⟩,
                ⟨some 6, none, .mov (.t 72)⟩,
                ⟨some 7, none, .mov (.c (.v .nilIface))⟩])
               .ret)))))))))))))), none⟩
def k76 : List (List Nat) := []
def o76 : List Nat := [1000049, 1000050, 3000000]
/-- strconv.syntaxError -/
def c77 : AFn := ⟨2, 11, [.t 4],
 (.seq
  (.reg [⟨some 4, none, .mov (.c (.v (.pointer none)))⟩])
  (.seq
   .stuck
   .ret)), none⟩
def k77 : List (List Nat) := []
def o77 : List Nat := [1000049, 1000050, 3000000]
/-- strconv.rangeError -/
def c78 : AFn := ⟨2, 11, [.t 4],
 (.seq
  (.reg [⟨some 4, none, .mov (.c (.v (.pointer none)))⟩])
  (.seq
   .stuck
   .ret)), none⟩
def k78 : List (List Nat) := []
def o78 : List Nat := [1000049, 1000050, 3000000]
/-- strconv.baseError -/
def c79 : AFn := ⟨3, 16, [.t 6],
 (.seq
  (.reg [⟨some 6, none, .mov (.c (.v (.pointer none)))⟩])
  (.seq
   (.reg [⟨some 7, none, .mov (.t 0)⟩,
    ⟨some 8, none, .mov (.t 1)⟩,
    ⟨some 9, none, .call false 92 [(.t 8)]⟩,
    ⟨some 10, none, .mov (.t 2)⟩,
    ⟨some 11, none, .call false 45 [(.t 10)]⟩,
    ⟨some 12, none, .bin .add (.c (.str [105, 110, 118, 97, 108, 105, 100, 32, 98, 97, 115, 101, 32])) (.t 11)⟩,
    ⟨some 13, none, .call false 93 [(.t 12)]⟩,
    ⟨some 14, none, .build [(.str []), (.str []), (.v .nilIface)] [(0, 1, (.t 7)), (1, 1, (.t 9)), (2, 1, (.t 13))]⟩,
    ⟨some 15, none, .box (.t 14)⟩,
    ⟨some 6, none, .mov (.t 15)⟩])
   .ret)), none⟩
def k79 : List (List Nat) := []
def o79 : List Nat := [1000049, 1000050, 3000000]
/-- strconv.bitSizeError -/
def c80 : AFn := ⟨3, 16, [.t 6],
 (.seq
  (.reg [⟨some 6, none, .mov (.c (.v (.pointer none)))⟩])
  (.seq
   (.reg [⟨some 7, none, .mov (.t 0)⟩,
    ⟨some 8, none, .mov (.t 1)⟩,
    ⟨some 9, none, .call false 92 [(.t 8)]⟩,
    ⟨some 10, none, .mov (.t 2)⟩,
    ⟨some 11, none, .call false 45 [(.t 10)]⟩,
    ⟨some 12, none, .bin .add (.c (.str [105, 110, 118, 97, 108, 105, 100, 32, 98, 105, 116, 32, 115, 105, 122, 101, 32])) (.t 11)⟩,
    ⟨some 13, none, .call false 93 [(.t 12)]⟩,
    ⟨some 14, none, .build [(.str []), (.str []), (.v .nilIface)] [(0, 1, (.t 7)), (1, 1, (.t 9)), (2, 1, (.t 13))]⟩,
    ⟨some 15, none, .box (.t 14)⟩,
    ⟨some 6, none, .mov (.t 15)⟩])
   .ret)), none⟩
def k80 : List (List Nat) := []
def o80 : List Nat := [1000049, 1000050, 3000000]
/-- unicode/utf8.decodeRuneInStringSlow -/
def c81 : AFn := ⟨1, 117, [.t 2, .t 3],
 (.seq
  (.reg [⟨some 2, none, .mov (.c (.int .i32 0))⟩,
   ⟨some 3, none, .mov (.c (.int .i64 0))⟩])
  (.seq
   (.reg [⟨some 13, none, .mov (.t 0)⟩,
    ⟨some 14, none, .lenS (.t 13)⟩,
    ⟨some 4, none, .mov (.t 14)⟩])
   (.seq
    (.seq
     (.reg [⟨some 15, none, .mov (.t 4)⟩,
      ⟨some 16, none, .bin .lss (.t 15) (.c (.int .i64 1))⟩])
     (.cond (.t 16)
      (.seq
       (.reg [⟨some 2, none, .mov (.c (.int .i32 65533))⟩,
        ⟨some 3, none, .mov (.c (.int .i64 0))⟩])
       .ret)
      .skip))
    (.seq
     (.reg [⟨some 17, none, .mov (.t 0)⟩,
      ⟨some 18, none, .idxS (.t 17) (.c (.int .i64 0))⟩,
      ⟨some 5, none, .mov (.t 18)⟩])
     (.seq
      .stuck
      (.seq
       (.seq
        (.reg [⟨some 22, none, .mov (.t 6)⟩,
         ⟨some 23, none, .bin .geq (.t 22) (.c (.int .u8 240))⟩])
        (.cond (.t 23)
         (.seq
          (.reg [⟨some 24, none, .mov (.t 6)⟩,
           ⟨some 25, none, .conv (.int .i32) (.t 24)⟩,
           ⟨some 26, none, .bin .shl (.t 25) (.c (.int .u64 31))⟩,
           ⟨some 27, none, .bin .shr (.t 26) (.c (.int .u64 31))⟩,
           ⟨some 7, none, .mov (.t 27)⟩])
          (.seq
           (.reg [⟨some 28, none, .mov (.t 0)⟩,
            ⟨some 29, none, .idxS (.t 28) (.c (.int .i64 0))⟩,
            ⟨some 30, none, .conv (.int .i32) (.t 29)⟩,
            ⟨some 31, none, .mov (.t 7)⟩,
            ⟨some 32, none, .bin .andNot (.t 30) (.t 31)⟩,
            ⟨some 33, none, .mov (.t 7)⟩,
            ⟨some 34, none, .bin .and (.c (.int .i32 65533)) (.t 33)⟩,
            ⟨some 35, none, .bin .or (.t 32) (.t 34)⟩,
            ⟨some 2, none, .mov (.t 35)⟩,
            ⟨some 3, none, .mov (.c (.int .i64 1))⟩])
           .ret))
         .skip))
       (.seq
        (.reg [⟨some 36, none, .mov (.t 6)⟩,
         ⟨some 37, none, .bin .and (.t 36) (.c (.int .u8 7))⟩,
         ⟨some 38, none, .conv (.int .i64) (.t 37)⟩,
         ⟨some 8, none, .mov (.t 38)⟩])
        (.seq
         .stuck
         (.seq
          (.seq
           (.reg [⟨some 43, none, .mov (.t 4)⟩,
            ⟨some 44, none, .mov (.t 8)⟩,
            ⟨some 45, none, .bin .lss (.t 43) (.t 44)⟩])
           (.cond (.t 45)
            (.seq
             (.reg [⟨some 2, none, .mov (.c (.int .i32 65533))⟩,
              ⟨some 3, none, .mov (.c (.int .i64 1))⟩])
             .ret)
            .skip))
          (.seq
           (.reg [⟨some 46, none, .mov (.t 0)⟩,
            ⟨some 47, none, .idxS (.t 46) (.c (.int .i64 1))⟩,
            ⟨some 10, none, .mov (.t 47)⟩])
           (.seq
            (.seq
             (.reg [⟨some 48, none, .mov (.t 10)⟩,
              ⟨some 49, none, .faddr 0 (.t 9)⟩,
              ⟨some 50, none, .load 1 false (.t 49)⟩,
              ⟨some 51, none, .bin .lss (.t 48) (.t 50)⟩,
              ⟨some 52, none, .mov (.t 51)⟩,
              ⟨some 53, some (52, false), .faddr 1 (.t 9)⟩,
              ⟨some 54, some (52, false), .load 1 false (.t 53)⟩,
              ⟨some 55, some (52, false), .mov (.t 10)⟩,
              ⟨some 56, some (52, false), .bin .lss (.t 54) (.t 55)⟩,
              ⟨some 57, none, .pick (.t 52) (.c (.bool true)) (.t 56)⟩])
             (.cond (.t 57)
              (.seq
               (.reg [⟨some 2, none, .mov (.c (.int .i32 65533))⟩,
                ⟨some 3, none, .mov (.c (.int .i64 1))⟩])
               .ret)
              .skip))
            (.seq
             (.seq
              (.reg [⟨some 58, none, .mov (.t 8)⟩,
               ⟨some 59, none, .bin .leq (.t 58) (.c (.int .i64 2))⟩])
              (.cond (.t 59)
               (.seq
                (.reg [⟨some 60, none, .mov (.t 5)⟩,
                 ⟨some 61, none, .bin .and (.t 60) (.c (.int .u8 31))⟩,
                 ⟨some 62, none, .conv (.int .i32) (.t 61)⟩,
                 ⟨some 63, none, .bin .shl (.t 62) (.c (.int .u64 6))⟩,
                 ⟨some 64, none, .mov (.t 10)⟩,
                 ⟨some 65, none, .bin .and (.t 64) (.c (.int .u8 63))⟩,
                 ⟨some 66, none, .conv (.int .i32) (.t 65)⟩,
                 ⟨some 67, none, .bin .or (.t 63) (.t 66)⟩,
                 ⟨some 2, none, .mov (.t 67)⟩,
                 ⟨some 3, none, .mov (.c (.int .i64 2))⟩])
                .ret)
               .skip))
             (.seq
              (.reg [⟨some 68, none, .mov (.t 0)⟩,
               ⟨some 69, none, .idxS (.t 68) (.c (.int .i64 2))⟩,
               ⟨some 11, none, .mov (.t 69)⟩])
              (.seq
               (.seq
                (.reg [⟨some 70, none, .mov (.t 11)⟩,
                 ⟨some 71, none, .bin .lss (.t 70) (.c (.int .u8 128))⟩,
                 ⟨some 72, none, .mov (.t 71)⟩,
                 ⟨some 73, some (72, false), .mov (.t 11)⟩,
                 ⟨some 74, some (72, false), .bin .lss (.c (.int .u8 191)) (.t 73)⟩,
                 ⟨some 75, none, .pick (.t 72) (.c (.bool true)) (.t 74)⟩])
                (.cond (.t 75)
                 (.seq
                  (.reg [⟨some 2, none, .mov (.c (.int .i32 65533))⟩,
                   ⟨some 3, none, .mov (.c (.int .i64 1))⟩])
                  .ret)
                 .skip))
               (.seq
                (.seq
                 (.reg [⟨some 76, none, .mov (.t 8)⟩,
                  ⟨some 77, none, .bin .leq (.t 76) (.c (.int .i64 3))⟩])
                 (.cond (.t 77)
                  (.seq
                   (.reg [⟨some 78, none, .mov (.t 5)⟩,
                    ⟨some 79, none, .bin .and (.t 78) (.c (.int .u8 15))⟩,
                    ⟨some 80, none, .conv (.int .i32) (.t 79)⟩,
                    ⟨some 81, none, .bin .shl (.t 80) (.c (.int .u64 12))⟩,
                    ⟨some 82, none, .mov (.t 10)⟩,
                    ⟨some 83, none, .bin .and (.t 82) (.c (.int .u8 63))⟩,
                    ⟨some 84, none, .conv (.int .i32) (.t 83)⟩,
                    ⟨some 85, none, .bin .shl (.t 84) (.c (.int .u64 6))⟩,
                    ⟨some 86, none, .bin .or (.t 81) (.t 85)⟩,
                    ⟨some 87, none, .mov (.t 11)⟩,
                    ⟨some 88, none, .bin .and (.t 87) (.c (.int .u8 63))⟩,
                    ⟨some 89, none, .conv (.int .i32) (.t 88)⟩,
                    ⟨some 90, none, .bin .or (.t 86) (.t 89)⟩,
                    ⟨some 2, none, .mov (.t 90)⟩,
                    ⟨some 3, none, .mov (.c (.int .i64 3))⟩])
                   .ret)
                  .skip))
                (.seq
                 (.reg [⟨some 91, none, .mov (.t 0)⟩,
                  ⟨some 92, none, .idxS (.t 91) (.c (.int .i64 3))⟩,
                  ⟨some 12, none, .mov (.t 92)⟩])
                 (.seq
                  (.seq
                   (.reg [⟨some 93, none, .mov (.t 12)⟩,
                    ⟨some 94, none, .bin .lss (.t 93) (.c (.int .u8 128))⟩,
                    ⟨some 95, none, .mov (.t 94)⟩,
                    ⟨some 96, some (95, false), .mov (.t 12)⟩,
                    ⟨some 97, some (95, false), .bin .lss (.c (.int .u8 191)) (.t 96)⟩,
                    ⟨some 98, none, .pick (.t 95) (.c (.bool true)) (.t 97)⟩])
                   (.cond (.t 98)
                    (.seq
                     (.reg [⟨some 2, none, .mov (.c (.int .i32 65533))⟩,
                      ⟨some 3, none, .mov (.c (.int .i64 1))⟩])
                     .ret)
                    .skip))
                  (.seq
                   (.reg [⟨some 99, none, .mov (.t 5)⟩,
                    ⟨some 100, none, .bin .and (.t 99) (.c (.int .u8 7))⟩,
                    ⟨some 101, none, .conv (.int .i32) (.t 100)⟩,
                    ⟨some 102, none, .bin .shl (.t 101) (.c (.int .u64 18))⟩,
                    ⟨some 103, none, .mov (.t 10)⟩,
                    ⟨some 104, none, .bin .and (.t 103) (.c (.int .u8 63))⟩,
                    ⟨some 105, none, .conv (.int .i32) (.t 104)⟩,
                    ⟨some 106, none, .bin .shl (.t 105) (.c (.int .u64 12))⟩,
                    ⟨some 107, none, .bin .or (.t 102) (.t 106)⟩,
                    ⟨some 108, none, .mov (.t 11)⟩,
                    ⟨some 109, none, .bin .and (.t 108) (.c (.int .u8 63))⟩,
                    ⟨some 110, none, .conv (.int .i32) (.t 109)⟩,
                    ⟨some 111, none, .bin .shl (.t 110) (.c (.int .u64 6))⟩,
                    ⟨some 112, none, .bin .or (.t 107) (.t 111)⟩,
                    ⟨some 113, none, .mov (.t 12)⟩,
                    ⟨some 114, none, .bin .and (.t 113) (.c (.int .u8 63))⟩,
                    ⟨some 115, none, .conv (.int .i32) (.t 114)⟩,
                    ⟨some 116, none, .bin .or (.t 112) (.t 115)⟩,
                    ⟨some 2, none, .mov (.t 116)⟩,
                    ⟨some 3, none, .mov (.c (.int .i64 4))⟩])
                   .ret)))))))))))))))))), none⟩
def k81 : List (List Nat) := []
def o81 : List Nat := [1000049, 1000050, 3000000]
/-- internal/stringslite.IndexByte -/
def c82 : AFn := ⟨2, 8, [.t 4],
 (.seq
  (.reg [⟨some 4, none, .mov (.c (.int .i64 0))⟩])
  (.seq
   (.reg [⟨some 5, none, .mov (.t 0)⟩,
    ⟨some 6, none, .mov (.t 1)⟩,
    ⟨some 7, none, .call false 94 [(.t 5), (.t 6)]⟩,
    ⟨some 4, none, .mov (.t 7)⟩])
   .ret)), none⟩
def k82 : List (List Nat) := []
def o82 : List Nat := [1000049, 1000050, 3000000]
/-- internal/bytealg.Cutover -/
def c84 : AFn := ⟨1, 6, [.t 2],
 (.seq
  (.reg [⟨some 2, none, .mov (.c (.int .i64 0))⟩])
  (.seq
   (.reg [⟨some 3, none, .mov (.t 0)⟩,
    ⟨some 4, none, .bin .add (.t 3) (.c (.int .i64 16))⟩,
    ⟨some 5, none, .bin .quo (.t 4) (.c (.int .i64 8))⟩,
    ⟨some 2, none, .mov (.t 5)⟩])
   .ret)), none⟩
def k84 : List (List Nat) := []
def o84 : List Nat := [1000049, 1000050, 3000000]
def c85b0 : AC := (.seq
            (.seq
             (.reg [⟨some 41, none, .mov (.t 10)⟩,
              ⟨some 42, none, .mov (.t 0)⟩,
              ⟨some 43, none, .lenS (.t 42)⟩,
              ⟨some 44, none, .bin .lss (.t 41) (.t 43)⟩])
             (.cond (.t 44)
              .skip
              (.exit 2)))
            (.block 3
             (.seq
              (.reg [⟨some 45, none, .mov (.t 8)⟩,
               ⟨some 46, none, .bin .mul (.t 45) (.c (.int .u32 16777619))⟩,
               ⟨some 8, none, .mov (.t 46)⟩])
              (.seq
               (.reg [⟨some 47, none, .mov (.t 8)⟩,
                ⟨some 48, none, .mov (.t 0)⟩,
                ⟨some 49, none, .mov (.t 10)⟩,
                ⟨some 50, none, .idxS (.t 48) (.t 49)⟩,
                ⟨some 51, none, .conv (.int .u32) (.t 50)⟩,
                ⟨some 52, none, .bin .add (.t 47) (.t 51)⟩,
                ⟨some 8, none, .mov (.t 52)⟩])
               (.seq
                (.reg [⟨some 53, none, .mov (.t 8)⟩,
                 ⟨some 54, none, .mov (.t 6)⟩,
                 ⟨some 55, none, .mov (.t 0)⟩,
                 ⟨some 56, none, .mov (.t 10)⟩,
                 ⟨some 57, none, .mov (.t 7)⟩,
                 ⟨some 58, none, .bin .sub (.t 56) (.t 57)⟩,
                 ⟨some 59, none, .idxS (.t 55) (.t 58)⟩,
                 ⟨some 60, none, .conv (.int .u32) (.t 59)⟩,
                 ⟨some 61, none, .bin .mul (.t 54) (.t 60)⟩,
                 ⟨some 62, none, .bin .sub (.t 53) (.t 61)⟩,
                 ⟨some 8, none, .mov (.t 62)⟩])
                (.seq
                 (.reg [⟨some 63, none, .mov (.t 10)⟩,
                  ⟨some 64, none, .bin .add (.t 63) (.c (.int .i64 1))⟩,
                  ⟨some 10, none, .mov (.t 64)⟩])
                 (.seq
                  (.reg [⟨some 65, none, .mov (.t 8)⟩,
                   ⟨some 66, none, .mov (.t 5)⟩,
                   ⟨some 67, none, .bin .eql (.t 65) (.t 66)⟩,
                   ⟨some 68, none, .mov (.t 67)⟩,
                   ⟨some 69, some (68, true), .mov (.t 0)⟩,
                   ⟨some 70, some (68, true), .mov (.t 10)⟩,
                   ⟨some 71, some (68, true), .mov (.t 7)⟩,
                   ⟨some 72, some (68, true), .bin .sub (.t 70) (.t 71)⟩,
                   ⟨some 73, some (68, true), .mov (.t 10)⟩,
                   ⟨some 74, some (68, true), .slc .string (.t 69) (some (.t 72)) (some (.t 73)) none⟩,
                   ⟨some 75, some (68, true), .mov (.t 1)⟩,
                   ⟨some 76, some (68, true), .bin .eql (.t 74) (.t 75)⟩,
                   ⟨some 77, none, .pick (.t 68) (.t 76) (.c (.bool false))⟩])
                  (.cond (.t 77)
                   (.seq
                    (.reg [⟨some 78, none, .mov (.t 10)⟩,
                     ⟨some 79, none, .mov (.t 7)⟩,
                     ⟨some 80, none, .bin .sub (.t 78) (.t 79)⟩,
                     ⟨some 4, none, .mov (.t 80)⟩])
                    .ret)
                   .skip))))))))
def c85b1 : AC := (.seq
          (.seq
           (.reg [⟨some 18, none, .mov (.t 9)⟩,
            ⟨some 19, none, .mov (.t 7)⟩,
            ⟨some 20, none, .bin .lss (.t 18) (.t 19)⟩])
           (.cond (.t 20)
            .skip
            (.exit 0)))
          (.seq
           (.block 1
            (.reg [⟨some 23, none, .mov (.t 8)⟩,
             ⟨some 24, none, .bin .mul (.t 23) (.c (.int .u32 16777619))⟩,
             ⟨some 25, none, .mov (.t 0)⟩,
             ⟨some 26, none, .mov (.t 9)⟩,
             ⟨some 27, none, .idxS (.t 25) (.t 26)⟩,
             ⟨some 28, none, .conv (.int .u32) (.t 27)⟩,
             ⟨some 29, none, .bin .add (.t 24) (.t 28)⟩,
             ⟨some 8, none, .mov (.t 29)⟩]))
           (.reg [⟨some 21, none, .mov (.t 9)⟩,
            ⟨some 22, none, .bin .add (.t 21) (.c (.int .i64 1))⟩,
            ⟨some 9, none, .mov (.t 22)⟩])))
def c85r0 : AC := (.seq
       (.seq
        (.reg [⟨some 30, none, .mov (.t 8)⟩,
         ⟨some 31, none, .mov (.t 5)⟩,
         ⟨some 32, none, .bin .eql (.t 30) (.t 31)⟩,
         ⟨some 33, none, .mov (.t 32)⟩,
         ⟨some 34, some (33, true), .mov (.t 0)⟩,
         ⟨some 35, some (33, true), .mov (.t 7)⟩,
         ⟨some 36, some (33, true), .slc .string (.t 34) none (some (.t 35)) none⟩,
         ⟨some 37, some (33, true), .mov (.t 1)⟩,
         ⟨some 38, some (33, true), .bin .eql (.t 36) (.t 37)⟩,
         ⟨some 39, none, .pick (.t 33) (.t 38) (.c (.bool false))⟩])
        (.cond (.t 39)
         (.seq
          (.reg [⟨some 4, none, .mov (.c (.int .i64 0))⟩])
          .ret)
         .skip))
       (.seq
        (.seq
         (.reg [⟨some 40, none, .mov (.t 7)⟩,
          ⟨some 10, none, .mov (.t 40)⟩])
         (.block 2
          (.loop [0, 1, 5, 6, 7, 8, 10]
           c85b0)))
        (.seq
         (.reg [⟨some 4, none, .mov (.c (.int .i64 (-1)))⟩])
         .ret)))
/-- internal/bytealg.IndexRabinKarp[string] -/
def c85 : AFn := ⟨2, 81, [.t 4],
 (.seq
  (.reg [⟨some 4, none, .mov (.c (.int .i64 0))⟩])
  (.seq
   (.reg [⟨some 12, none, .mov (.t 1)⟩,
    ⟨some 13, none, .call false 95 [(.t 12)]⟩,
    ⟨some 11, none, .mov (.t 13)⟩,
    ⟨some 14, none, .ext (.t 11) 0⟩,
    ⟨some 15, none, .ext (.t 11) 1⟩,
    ⟨some 5, none, .mov (.t 14)⟩,
    ⟨some 6, none, .mov (.t 15)⟩])
   (.seq
    (.reg [⟨some 16, none, .mov (.t 1)⟩,
     ⟨some 17, none, .lenS (.t 16)⟩,
     ⟨some 7, none, .mov (.t 17)⟩])
    (.seq
     (.reg [⟨some 8, none, .mov (.c (.int .u32 0))⟩])
     (.seq
      (.seq
       (.reg [⟨some 9, none, .mov (.c (.int .i64 0))⟩])
       (.block 0
        (.loop [0, 1, 5, 6, 7, 8, 9]
         c85b1)))
      c85r0))))), none⟩
def k85 : List (List Nat) := [[0, 1, 5, 6, 7, 8, 9], [0, 1, 5, 6, 7, 8, 10]]
def o85 : List Nat := [1000049, 1000050, 3000000]
/-- internal/strconv.log10Pow2 -/
def c86 : AFn := ⟨1, 6, [.t 2],
 (.seq
  (.reg [⟨some 2, none, .mov (.c (.int .i64 0))⟩])
  (.seq
   (.reg [⟨some 3, none, .mov (.t 0)⟩,
    ⟨some 4, none, .bin .mul (.t 3) (.c (.int .i64 78913))⟩,
    ⟨some 5, none, .bin .shr (.t 4) (.c (.int .u64 18))⟩,
    ⟨some 2, none, .mov (.t 5)⟩])
   .ret)), none⟩
def k86 : List (List Nat) := []
def o86 : List Nat := [1000049, 1000050, 3000000]
/-- math/bits.Len64 -/
def c87 : AFn := ⟨1, 25, [.t 2],
 (.seq
  (.reg [⟨some 2, none, .mov (.c (.int .i64 0))⟩])
  (.seq
   (.seq
    (.reg [⟨some 3, none, .mov (.t 0)⟩,
     ⟨some 4, none, .bin .geq (.t 3) (.c (.int .u64 4294967296))⟩])
    (.cond (.t 4)
     (.seq
      (.reg [⟨some 5, none, .mov (.t 0)⟩,
       ⟨some 6, none, .bin .shr (.t 5) (.c (.int .u64 32))⟩,
       ⟨some 0, none, .mov (.t 6)⟩])
      (.reg [⟨some 2, none, .mov (.c (.int .i64 32))⟩]))
     .skip))
   (.seq
    (.seq
     (.reg [⟨some 7, none, .mov (.t 0)⟩,
      ⟨some 8, none, .bin .geq (.t 7) (.c (.int .u64 65536))⟩])
     (.cond (.t 8)
      (.seq
       (.reg [⟨some 9, none, .mov (.t 0)⟩,
        ⟨some 10, none, .bin .shr (.t 9) (.c (.int .u64 16))⟩,
        ⟨some 0, none, .mov (.t 10)⟩])
       (.reg [⟨some 11, none, .mov (.t 2)⟩,
        ⟨some 12, none, .bin .add (.t 11) (.c (.int .i64 16))⟩,
        ⟨some 2, none, .mov (.t 12)⟩]))
      .skip))
    (.seq
     (.seq
      (.reg [⟨some 13, none, .mov (.t 0)⟩,
       ⟨some 14, none, .bin .geq (.t 13) (.c (.int .u64 256))⟩])
      (.cond (.t 14)
       (.seq
        (.reg [⟨some 15, none, .mov (.t 0)⟩,
         ⟨some 16, none, .bin .shr (.t 15) (.c (.int .u64 8))⟩,
         ⟨some 0, none, .mov (.t 16)⟩])
        (.reg [⟨some 17, none, .mov (.t 2)⟩,
         ⟨some 18, none, .bin .add (.t 17) (.c (.int .i64 8))⟩,
         ⟨some 2, none, .mov (.t 18)⟩]))
       .skip))
     (.seq
      (.reg [⟨some 19, none, .mov (.t 2)⟩,
       ⟨some 20, none, .mov (.t 0)⟩,
       ⟨some 21, none, .conv (.int .u8) (.t 20)⟩,
       ⟨some 22, none, .idxS (.c (.str [0, 1, 2, 2, 3, 3, 3, 3, 4, 4, 4, 4, 4, 4, 4, 4, 5, 5, 5, 5, 5, 5, 5, 5, 5, 5, 5, 5, 5, 5, 5, 5, 6, 6, 6, 6, 6, 6, 6, 6, 6, 6, 6, 6, 6, 6, 6, 6, 6, 6, 6, 6, 6, 6, 6, 6, 6, 6, 6, 6, 6, 6, 6, 6, 7, 7, 7, 7, 7, 7, 7, 7, 7, 7, 7, 7, 7, 7, 7, 7, 7, 7, 7, 7, 7, 7, 7, 7, 7, 7, 7, 7, 7, 7, 7, 7, 7, 7, 7, 7, 7, 7, 7, 7, 7, 7, 7, 7, 7, 7, 7, 7, 7, 7, 7, 7, 7, 7, 7, 7, 7, 7, 7, 7, 7, 7, 7, 7, 8, 8, 8, 8, 8, 8, 8, 8, 8, 8, 8, 8, 8, 8, 8, 8, 8, 8, 8, 8, 8, 8, 8, 8, 8, 8, 8, 8, 8, 8, 8, 8, 8, 8, 8, 8, 8, 8, 8, 8, 8, 8, 8, 8, 8, 8, 8, 8, 8, 8, 8, 8, 8, 8, 8, 8, 8, 8, 8, 8, 8, 8, 8, 8, 8, 8, 8, 8, 8, 8, 8, 8, 8, 8, 8, 8, 8, 8, 8, 8, 8, 8, 8, 8, 8, 8, 8, 8, 8, 8, 8, 8, 8, 8, 8, 8, 8, 8, 8, 8, 8, 8, 8, 8, 8, 8, 8, 8, 8, 8, 8, 8, 8, 8, 8, 8, 8, 8, 8, 8, 8, 8, 8, 8, 8, 8, 8, 8])) (.t 21)⟩,
       ⟨some 23, none, .conv (.int .i64) (.t 22)⟩,
       ⟨some 24, none, .bin .add (.t 19) (.t 23)⟩,
       ⟨some 2, none, .mov (.t 24)⟩])
      .ret))))), none⟩
def k87 : List (List Nat) := []
def o87 : List Nat := [1000049, 1000050, 3000000]
/-- internal/strconv.bool2[int] -/
def c88 : AFn := ⟨1, 4, [.t 2],
 (.seq
  (.reg [⟨some 2, none, .mov (.c (.int .i64 0))⟩])
  (.seq
   (.seq
    (.reg [⟨some 3, none, .mov (.t 0)⟩])
    (.cond (.t 3)
     (.seq
      (.reg [⟨some 2, none, .mov (.c (.int .i64 1))⟩])
      .ret)
     .skip))
   (.seq
    (.reg [⟨some 2, none, .mov (.c (.int .i64 0))⟩])
    .ret))), none⟩
def k88 : List (List Nat) := []
def o88 : List Nat := [1000049, 1000050, 3000000]
/-- internal/strconv.isPowerOfTwo -/
def c89 : AFn := ⟨1, 8, [.t 2],
 (.seq
  (.reg [⟨some 2, none, .mov (.c (.bool false))⟩])
  (.seq
   (.reg [⟨some 3, none, .mov (.t 0)⟩,
    ⟨some 4, none, .mov (.t 0)⟩,
    ⟨some 5, none, .bin .sub (.t 4) (.c (.int .i64 1))⟩,
    ⟨some 6, none, .bin .and (.t 3) (.t 5)⟩,
    ⟨some 7, none, .bin .eql (.t 6) (.c (.int .i64 0))⟩,
    ⟨some 2, none, .mov (.t 7)⟩])
   .ret)), none⟩
def k89 : List (List Nat) := []
def o89 : List Nat := [1000049, 1000050, 3000000]
/-- math/bits.TrailingZeros -/
def c90 : AFn := ⟨1, 8, [.t 2],
 (.seq
  (.reg [⟨some 2, none, .mov (.c (.int .i64 0))⟩])
  (.seq
   (.cond (.c (.bool false))
    (.seq
     (.reg [⟨some 3, none, .mov (.t 0)⟩,
      ⟨some 4, none, .conv (.int .u32) (.t 3)⟩,
      ⟨some 5, none, .call false 96 [(.t 4)]⟩,
      ⟨some 2, none, .mov (.t 5)⟩])
     .ret)
    .skip)
   (.seq
    (.reg [⟨some 6, none, .mov (.t 0)⟩,
     ⟨some 7, none, .call false 97 [(.t 6)]⟩,
     ⟨some 2, none, .mov (.t 7)⟩])
    .ret))), none⟩
def k90 : List (List Nat) := []
def o90 : List Nat := [1000049, 1000050, 3000000]
def c91b0 : AC := (.seq
                 (.reg [⟨some 102, none, .bin .lss (.t 101) (.t 100)⟩])
                 (.seq
                  (.cond (.t 102)
                   .skip
                   (.exit 3))
                  (.seq
                   (.block 4
                    (.seq
                     (.reg [⟨some 103, none, .iaddr (.slice 1) (.t 99) (.t 101)⟩,
                      ⟨some 104, none, .load 1 false (.t 103)⟩,
                      ⟨some 15, none, .mov (.t 104)⟩])
                     (.seq
                      (.reg [⟨some 16, none, .mov (.c (.int .u8 0))⟩])
                      (.seq
                       (.block 5
                        (.seq
                         (.reg [⟨some 107, none, .mov (.t 15)⟩,
                          ⟨some 108, none, .bin .eql (.t 107) (.c (.int .u8 95))⟩,
                          ⟨some 109, none, .mov (.t 108)⟩,
                          ⟨some 110, some (109, true), .mov (.t 8)⟩,
                          ⟨some 111, none, .pick (.t 109) (.t 110) (.c (.bool false))⟩,
                          ⟨some 106, none, .mov (.t 111)⟩])
                         (.cond (.t 106)
                          (.seq
                           (.reg [⟨some 12, none, .mov (.c (.bool true))⟩])
                           (.exit 4))
                          (.seq
                           (.reg [⟨some 113, none, .mov (.t 15)⟩,
                            ⟨some 114, none, .bin .leq (.c (.int .u8 48)) (.t 113)⟩,
                            ⟨some 115, none, .mov (.t 114)⟩,
                            ⟨some 116, some (115, true), .mov (.t 15)⟩,
                            ⟨some 117, some (115, true), .bin .leq (.t 116) (.c (.int .u8 57))⟩,
                            ⟨some 118, none, .pick (.t 115) (.t 117) (.c (.bool false))⟩,
                            ⟨some 112, none, .mov (.t 118)⟩])
                           (.cond (.t 112)
                            (.reg [⟨some 119, none, .mov (.t 15)⟩,
                             ⟨some 120, none, .bin .sub (.t 119) (.c (.int .u8 48))⟩,
                             ⟨some 16, none, .mov (.t 120)⟩])
                            (.seq
                             (.reg [⟨some 122, none, .mov (.t 15)⟩,
                              ⟨some 123, none, .call false 98 [(.t 122)]⟩,
                              ⟨some 124, none, .bin .leq (.c (.int .u8 97)) (.t 123)⟩,
                              ⟨some 125, none, .mov (.t 124)⟩,
                              ⟨some 126, some (125, true), .mov (.t 15)⟩,
                              ⟨some 127, some (125, true), .call false 98 [(.t 126)]⟩,
                              ⟨some 128, some (125, true), .bin .leq (.t 127) (.c (.int .u8 122))⟩,
                              ⟨some 129, none, .pick (.t 125) (.t 128) (.c (.bool false))⟩,
                              ⟨some 121, none, .mov (.t 129)⟩])
                             (.cond (.t 121)
                              (.reg [⟨some 130, none, .mov (.t 15)⟩,
                               ⟨some 131, none, .call false 98 [(.t 130)]⟩,
                               ⟨some 132, none, .bin .sub (.t 131) (.c (.int .u8 97))⟩,
                               ⟨some 133, none, .bin .add (.t 132) (.c (.int .u8 10))⟩,
                               ⟨some 16, none, .mov (.t 133)⟩])
                              (.seq
                               .stuck
                               .ret))))))))
                       (.seq
                        (.seq
                         (.reg [⟨some 134, none, .mov (.t 16)⟩,
                          ⟨some 135, none, .mov (.t 1)⟩,
                          ⟨some 136, none, .conv (.int .u8) (.t 135)⟩,
                          ⟨some 137, none, .bin .geq (.t 134) (.t 136)⟩])
                         (.cond (.t 137)
                          (.seq
                           .stuck
                           .ret)
                          .skip))
                        (.seq
                         (.seq
                          (.reg [⟨some 139, none, .mov (.t 13)⟩,
                           ⟨some 140, none, .mov (.t 10)⟩,
                           ⟨some 141, none, .bin .geq (.t 139) (.t 140)⟩])
                          (.cond (.t 141)
                           (.seq
                            .stuck
                            .ret)
                           .skip))
                         (.seq
                          (.reg [⟨some 144, none, .mov (.t 13)⟩,
                           ⟨some 145, none, .mov (.t 1)⟩,
                           ⟨some 146, none, .conv (.int .u64) (.t 145)⟩,
                           ⟨some 147, none, .bin .mul (.t 144) (.t 146)⟩,
                           ⟨some 13, none, .mov (.t 147)⟩])
                          (.seq
                           (.reg [⟨some 148, none, .mov (.t 13)⟩,
                            ⟨some 149, none, .mov (.t 16)⟩,
                            ⟨some 150, none, .conv (.int .u64) (.t 149)⟩,
                            ⟨some 151, none, .bin .add (.t 148) (.t 150)⟩,
                            ⟨some 17, none, .mov (.t 151)⟩])
                           (.seq
                            (.seq
                             (.reg [⟨some 152, none, .mov (.t 17)⟩,
                              ⟨some 153, none, .mov (.t 13)⟩,
                              ⟨some 154, none, .bin .lss (.t 152) (.t 153)⟩,
                              ⟨some 155, none, .mov (.t 154)⟩,
                              ⟨some 156, some (155, false), .mov (.t 17)⟩,
                              ⟨some 157, some (155, false), .mov (.t 11)⟩,
                              ⟨some 158, some (155, false), .bin .gtr (.t 156) (.t 157)⟩,
                              ⟨some 159, none, .pick (.t 155) (.c (.bool true)) (.t 158)⟩])
                             (.cond (.t 159)
                              (.seq
                               .stuck
                               .ret)
                              .skip))
                            (.reg [⟨some 162, none, .mov (.t 17)⟩,
                             ⟨some 13, none, .mov (.t 162)⟩]))))))))))
                   (.reg [⟨some 163, none, .bin .add (.t 101) (.c (.int .i64 1))⟩,
                    ⟨some 101, none, .mov (.t 163)⟩]))))
def c91r0 : AC := (.seq
              (.seq
               (.reg [⟨some 164, none, .mov (.t 12)⟩,
                ⟨some 165, none, .mov (.t 164)⟩,
                ⟨some 166, some (165, true), .mov (.t 9)⟩,
                ⟨some 167, some (165, true), .call false 99 [(.t 166)]⟩,
                ⟨some 168, some (165, true), .un .not (.t 167)⟩,
                ⟨some 169, none, .pick (.t 165) (.t 168) (.c (.bool false))⟩])
               (.cond (.t 169)
                (.seq
                 .stuck
                 .ret)
                .skip))
              (.seq
               (.reg [⟨some 171, none, .mov (.t 13)⟩,
                ⟨some 6, none, .mov (.t 171)⟩,
                ⟨some 7, none, .mov (.c (.v .nilIface))⟩])
               .ret))
/-- internal/strconv.ParseUint -/
def c91 : AFn := ⟨3, 172, [.t 6, .t 7],
 (.seq
  (.reg [⟨some 6, none, .mov (.c (.int .u64 0))⟩,
   ⟨some 7, none, .mov (.c (.v .nilIface))⟩])
  (.seq
   (.seq
    (.reg [⟨some 18, none, .mov (.t 0)⟩,
     ⟨some 19, none, .bin .eql (.t 18) (.c (.str []))⟩])
    (.cond (.t 19)
     (.seq
      .stuck
      .ret)
     .skip))
   (.seq
    (.reg [⟨some 21, none, .mov (.t 1)⟩,
     ⟨some 22, none, .bin .eql (.t 21) (.c (.int .i64 0))⟩,
     ⟨some 8, none, .mov (.t 22)⟩])
    (.seq
     (.reg [⟨some 23, none, .mov (.t 0)⟩,
      ⟨some 9, none, .mov (.t 23)⟩])
     (.seq
      (.block 0
       (.seq
        (.reg [⟨some 26, none, .mov (.t 1)⟩,
         ⟨some 27, none, .bin .leq (.c (.int .i64 2)) (.t 26)⟩,
         ⟨some 28, none, .mov (.t 27)⟩,
         ⟨some 29, some (28, true), .mov (.t 1)⟩,
         ⟨some 30, some (28, true), .bin .leq (.t 29) (.c (.int .i64 36))⟩,
         ⟨some 31, none, .pick (.t 28) (.t 30) (.c (.bool false))⟩,
         ⟨some 25, none, .mov (.t 31)⟩])
        (.cond (.t 25)
         .skip
         (.seq
          (.reg [⟨some 33, none, .mov (.t 1)⟩,
           ⟨some 34, none, .bin .eql (.t 33) (.c (.int .i64 0))⟩,
           ⟨some 32, none, .mov (.t 34)⟩])
          (.cond (.t 32)
           (.seq
            (.reg [⟨some 1, none, .mov (.c (.int .i64 10))⟩])
            (.seq
             (.reg [⟨some 35, none, .mov (.t 0)⟩,
              ⟨some 36, none, .idxS (.t 35) (.c (.int .i64 0))⟩,
              ⟨some 37, none, .bin .eql (.t 36) (.c (.int .u8 48))⟩])
             (.cond (.t 37)
              (.block 1
               (.seq
                (.reg [⟨some 41, none, .mov (.t 0)⟩,
                 ⟨some 42, none, .lenS (.t 41)⟩,
                 ⟨some 43, none, .bin .geq (.t 42) (.c (.int .i64 3))⟩,
                 ⟨some 44, none, .mov (.t 43)⟩,
                 ⟨some 45, some (44, true), .mov (.t 0)⟩,
                 ⟨some 46, some (44, true), .idxS (.t 45) (.c (.int .i64 1))⟩,
                 ⟨some 47, some (44, true), .call false 98 [(.t 46)]⟩,
                 ⟨some 48, some (44, true), .bin .eql (.t 47) (.c (.int .u8 98))⟩,
                 ⟨some 49, none, .pick (.t 44) (.t 48) (.c (.bool false))⟩,
                 ⟨some 40, none, .mov (.t 49)⟩])
                (.cond (.t 40)
                 (.seq
                  (.reg [⟨some 1, none, .mov (.c (.int .i64 2))⟩])
                  (.reg [⟨some 50, none, .mov (.t 0)⟩,
                   ⟨some 51, none, .slc .string (.t 50) (some (.c (.int .i64 2))) none none⟩,
                   ⟨some 0, none, .mov (.t 51)⟩]))
                 (.seq
                  (.reg [⟨some 53, none, .mov (.t 0)⟩,
                   ⟨some 54, none, .lenS (.t 53)⟩,
                   ⟨some 55, none, .bin .geq (.t 54) (.c (.int .i64 3))⟩,
                   ⟨some 56, none, .mov (.t 55)⟩,
                   ⟨some 57, some (56, true), .mov (.t 0)⟩,
                   ⟨some 58, some (56, true), .idxS (.t 57) (.c (.int .i64 1))⟩,
                   ⟨some 59, some (56, true), .call false 98 [(.t 58)]⟩,
                   ⟨some 60, some (56, true), .bin .eql (.t 59) (.c (.int .u8 111))⟩,
                   ⟨some 61, none, .pick (.t 56) (.t 60) (.c (.bool false))⟩,
                   ⟨some 52, none, .mov (.t 61)⟩])
                  (.cond (.t 52)
                   (.seq
                    (.reg [⟨some 1, none, .mov (.c (.int .i64 8))⟩])
                    (.reg [⟨some 62, none, .mov (.t 0)⟩,
                     ⟨some 63, none, .slc .string (.t 62) (some (.c (.int .i64 2))) none none⟩,
                     ⟨some 0, none, .mov (.t 63)⟩]))
                   (.seq
                    (.reg [⟨some 65, none, .mov (.t 0)⟩,
                     ⟨some 66, none, .lenS (.t 65)⟩,
                     ⟨some 67, none, .bin .geq (.t 66) (.c (.int .i64 3))⟩,
                     ⟨some 68, none, .mov (.t 67)⟩,
                     ⟨some 69, some (68, true), .mov (.t 0)⟩,
                     ⟨some 70, some (68, true), .idxS (.t 69) (.c (.int .i64 1))⟩,
                     ⟨some 71, some (68, true), .call false 98 [(.t 70)]⟩,
                     ⟨some 72, some (68, true), .bin .eql (.t 71) (.c (.int .u8 120))⟩,
                     ⟨some 73, none, .pick (.t 68) (.t 72) (.c (.bool false))⟩,
                     ⟨some 64, none, .mov (.t 73)⟩])
                    (.cond (.t 64)
                     (.seq
                      (.reg [⟨some 1, none, .mov (.c (.int .i64 16))⟩])
                      (.reg [⟨some 74, none, .mov (.t 0)⟩,
                       ⟨some 75, none, .slc .string (.t 74) (some (.c (.int .i64 2))) none none⟩,
                       ⟨some 0, none, .mov (.t 75)⟩]))
                     (.seq
                      (.reg [⟨some 1, none, .mov (.c (.int .i64 8))⟩])
                      (.reg [⟨some 38, none, .mov (.t 0)⟩,
                       ⟨some 39, none, .slc .string (.t 38) (some (.c (.int .i64 1))) none none⟩,
                       ⟨some 0, none, .mov (.t 39)⟩])))))))))
              .skip)))
           (.seq
            .stuck
            .ret))))))
      (.seq
       (.seq
        (.reg [⟨some 76, none, .mov (.t 2)⟩,
         ⟨some 77, none, .bin .eql (.t 76) (.c (.int .i64 0))⟩])
        (.cond (.t 77)
         (.reg [⟨some 2, none, .mov (.c (.int .i64 64))⟩])
         (.seq
          (.reg [⟨some 78, none, .mov (.t 2)⟩,
           ⟨some 79, none, .bin .lss (.t 78) (.c (.int .i64 0))⟩,
           ⟨some 80, none, .mov (.t 79)⟩,
           ⟨some 81, some (80, false), .mov (.t 2)⟩,
           ⟨some 82, some (80, false), .bin .gtr (.t 81) (.c (.int .i64 64))⟩,
           ⟨some 83, none, .pick (.t 80) (.c (.bool true)) (.t 82)⟩])
          (.cond (.t 83)
           (.seq
            .stuck
            .ret)
           .skip))))
       (.seq
        (.reg [⟨some 10, none, .mov (.c (.int .u64 0))⟩])
        (.seq
         (.seq
          (.reg [⟨some 85, none, .mov (.t 1)⟩])
          (.block 2
           (.seq
            (.reg [⟨some 91, none, .bin .eql (.t 85) (.c (.int .i64 10))⟩,
             ⟨some 90, none, .mov (.t 91)⟩])
            (.cond (.t 90)
             (.reg [⟨some 10, none, .mov (.c (.int .u64 1844674407370955162))⟩])
             (.seq
              (.reg [⟨some 93, none, .bin .eql (.t 85) (.c (.int .i64 16))⟩,
               ⟨some 92, none, .mov (.t 93)⟩])
              (.cond (.t 92)
               (.reg [⟨some 10, none, .mov (.c (.int .u64 1152921504606846976))⟩])
               (.reg [⟨some 86, none, .mov (.t 1)⟩,
                ⟨some 87, none, .conv (.int .u64) (.t 86)⟩,
                ⟨some 88, none, .bin .quo (.c (.int .u64 18446744073709551615)) (.t 87)⟩,
                ⟨some 89, none, .bin .add (.t 88) (.c (.int .u64 1))⟩,
                ⟨some 10, none, .mov (.t 89)⟩])))))))
         (.seq
          (.reg [⟨some 94, none, .mov (.t 2)⟩,
           ⟨some 95, none, .conv (.int .u64) (.t 94)⟩,
           ⟨some 96, none, .bin .shl (.c (.int .u64 1)) (.t 95)⟩,
           ⟨some 97, none, .bin .sub (.t 96) (.c (.int .u64 1))⟩,
           ⟨some 11, none, .mov (.t 97)⟩])
          (.seq
           (.reg [⟨some 12, none, .mov (.c (.bool false))⟩])
           (.seq
            (.reg [⟨some 13, none, .mov (.c (.int .u64 0))⟩])
            (.seq
             (.seq
              .stuck
              (.block 3
               (.loop [1, 8, 9, 10, 11, 12, 13, 99, 100, 101]
                c91b0)))
             c91r0)))))))))))), none⟩
def k91 : List (List Nat) := [[1, 8, 9, 10, 11, 12, 13, 99, 100, 101]]
def o91 : List Nat := [1000049, 1000050, 3000000]
/-- internal/stringslite.Clone -/
def c92 : AFn := ⟨1, 18, [.t 2],
 (.seq
  (.reg [⟨some 2, none, .mov (.c (.str []))⟩])
  (.seq
   (.seq
    (.reg [⟨some 4, none, .mov (.t 0)⟩,
     ⟨some 5, none, .lenS (.t 4)⟩,
     ⟨some 6, none, .bin .eql (.t 5) (.c (.int .i64 0))⟩])
    (.cond (.t 6)
     (.seq
      (.reg [⟨some 2, none, .mov (.c (.str []))⟩])
      .ret)
     .skip))
   (.seq
    (.reg [⟨some 7, none, .mov (.t 0)⟩,
     ⟨some 8, none, .lenS (.t 7)⟩,
     ⟨some 9, none, .make 1 1 [(.int .u8 0)] (.t 8) (.t 8)⟩,
     ⟨some 3, none, .mov (.t 9)⟩])
    (.seq
     (.reg [⟨some 10, none, .mov (.t 3)⟩,
      ⟨some 11, none, .mov (.t 0)⟩,
      ⟨some 12, none, .copy 1 (.t 10) (.t 11)⟩])
     (.seq
      .stuck
      .ret))))), none⟩
def k92 : List (List Nat) := []
def o92 : List Nat := [1000049, 1000050, 3000000, 9]
/-- errors.New -/
def c93 : AFn := ⟨1, 7, [.t 2],
 (.seq
  (.reg [⟨some 2, none, .mov (.c (.v .nilIface))⟩])
  (.seq
   .stuck
   .ret)), none⟩
def k93 : List (List Nat) := []
def o93 : List Nat := [1000049, 1000050, 3000000]
def c95b0 : AC := (.seq
          (.seq
           (.reg [⟨some 24, none, .mov (.t 8)⟩,
            ⟨some 25, none, .bin .gtr (.t 24) (.c (.int .i64 0))⟩])
           (.cond (.t 25)
            .skip
            (.exit 2)))
          (.seq
           (.block 3
            (.seq
             (.seq
              (.reg [⟨some 28, none, .mov (.t 8)⟩,
               ⟨some 29, none, .bin .and (.t 28) (.c (.int .i64 1))⟩,
               ⟨some 30, none, .bin .neq (.t 29) (.c (.int .i64 0))⟩])
              (.cond (.t 30)
               (.reg [⟨some 31, none, .mov (.t 6)⟩,
                ⟨some 32, none, .mov (.t 7)⟩,
                ⟨some 33, none, .bin .mul (.t 31) (.t 32)⟩,
                ⟨some 6, none, .mov (.t 33)⟩])
               .skip))
             (.reg [⟨some 34, none, .mov (.t 7)⟩,
              ⟨some 35, none, .mov (.t 7)⟩,
              ⟨some 36, none, .bin .mul (.t 34) (.t 35)⟩,
              ⟨some 7, none, .mov (.t 36)⟩])))
           (.reg [⟨some 26, none, .mov (.t 8)⟩,
            ⟨some 27, none, .bin .shr (.t 26) (.c (.int .u64 1))⟩,
            ⟨some 8, none, .mov (.t 27)⟩])))
def c95b1 : AC := (.seq
        (.seq
         (.reg [⟨some 9, none, .mov (.t 5)⟩,
          ⟨some 10, none, .mov (.t 0)⟩,
          ⟨some 11, none, .lenS (.t 10)⟩,
          ⟨some 12, none, .bin .lss (.t 9) (.t 11)⟩])
         (.cond (.t 12)
          .skip
          (.exit 0)))
        (.seq
         (.block 1
          (.reg [⟨some 15, none, .mov (.t 4)⟩,
           ⟨some 16, none, .bin .mul (.t 15) (.c (.int .u32 16777619))⟩,
           ⟨some 17, none, .mov (.t 0)⟩,
           ⟨some 18, none, .mov (.t 5)⟩,
           ⟨some 19, none, .idxS (.t 17) (.t 18)⟩,
           ⟨some 20, none, .conv (.int .u32) (.t 19)⟩,
           ⟨some 21, none, .bin .add (.t 16) (.t 20)⟩,
           ⟨some 4, none, .mov (.t 21)⟩]))
         (.reg [⟨some 13, none, .mov (.t 5)⟩,
          ⟨some 14, none, .bin .add (.t 13) (.c (.int .i64 1))⟩,
          ⟨some 5, none, .mov (.t 14)⟩])))
def c95r0 : AC := (.seq
     (.reg [⟨some 6, none, .mov (.c (.int .u32 1))⟩,
      ⟨some 7, none, .mov (.c (.int .u32 16777619))⟩])
     (.seq
      (.seq
       (.reg [⟨some 22, none, .mov (.t 0)⟩,
        ⟨some 23, none, .lenS (.t 22)⟩,
        ⟨some 8, none, .mov (.t 23)⟩])
       (.block 2
        (.loop [4, 6, 7, 8]
         c95b0)))
      (.seq
       (.reg [⟨some 37, none, .mov (.t 4)⟩,
        ⟨some 38, none, .mov (.t 6)⟩,
        ⟨some 2, none, .mov (.t 37)⟩,
        ⟨some 3, none, .mov (.t 38)⟩])
       .ret)))
/-- internal/bytealg.hashStr[string] -/
def c95 : AFn := ⟨1, 39, [.t 2, .t 3],
 (.seq
  (.reg [⟨some 2, none, .mov (.c (.int .u32 0))⟩,
   ⟨some 3, none, .mov (.c (.int .u32 0))⟩])
  (.seq
   (.reg [⟨some 4, none, .mov (.c (.int .u32 0))⟩])
   (.seq
    (.seq
     (.reg [⟨some 5, none, .mov (.c (.int .i64 0))⟩])
     (.block 0
      (.loop [0, 4, 5]
       c95b1)))
    c95r0))), none⟩
def k95 : List (List Nat) := [[0, 4, 5], [4, 6, 7, 8]]
def o95 : List Nat := [1000049, 1000050, 3000000]
/-- math/bits.TrailingZeros32 -/
def c96 : AFn := ⟨1, 14, [.t 2],
 (.seq
  (.reg [⟨some 2, none, .mov (.c (.int .i64 0))⟩])
  (.seq
   (.seq
    (.reg [⟨some 3, none, .mov (.t 0)⟩,
     ⟨some 4, none, .bin .eql (.t 3) (.c (.int .u32 0))⟩])
    (.cond (.t 4)
     (.seq
      (.reg [⟨some 2, none, .mov (.c (.int .i64 32))⟩])
      .ret)
     .skip))
   (.seq
    .stuck
    .ret))), none⟩
def k96 : List (List Nat) := []
def o96 : List Nat := [1000049, 1000050, 3000000]
/-- math/bits.TrailingZeros64 -/
def c97 : AFn := ⟨1, 14, [.t 2],
 (.seq
  (.reg [⟨some 2, none, .mov (.c (.int .i64 0))⟩])
  (.seq
   (.seq
    (.reg [⟨some 3, none, .mov (.t 0)⟩,
     ⟨some 4, none, .bin .eql (.t 3) (.c (.int .u64 0))⟩])
    (.cond (.t 4)
     (.seq
      (.reg [⟨some 2, none, .mov (.c (.int .i64 64))⟩])
      .ret)
     .skip))
   (.seq
    .stuck
    .ret))), none⟩
def k97 : List (List Nat) := []
def o97 : List Nat := [1000049, 1000050, 3000000]
/-- internal/strconv.lower -/
def c98 : AFn := ⟨1, 5, [.t 2],
 (.seq
  (.reg [⟨some 2, none, .mov (.c (.int .u8 0))⟩])
  (.seq
   (.reg [⟨some 3, none, .mov (.t 0)⟩,
    ⟨some 4, none, .bin .or (.t 3) (.c (.int .u8 32))⟩,
    ⟨some 2, none, .mov (.t 4)⟩])
   .ret)), none⟩
def k98 : List (List Nat) := []
def o98 : List Nat := [1000049, 1000050, 3000000]
def c99b0 : AC := (.seq
           (.seq
            (.reg [⟨some 51, none, .mov (.t 4)⟩,
             ⟨some 52, none, .mov (.t 0)⟩,
             ⟨some 53, none, .lenS (.t 52)⟩,
             ⟨some 54, none, .bin .lss (.t 51) (.t 53)⟩])
            (.cond (.t 54)
             .skip
             (.exit 0)))
           (.seq
            (.block 1
             (.seq
              (.seq
               (.reg [⟨some 57, none, .mov (.t 0)⟩,
                ⟨some 58, none, .mov (.t 4)⟩,
                ⟨some 59, none, .idxS (.t 57) (.t 58)⟩,
                ⟨some 60, none, .bin .leq (.c (.int .u8 48)) (.t 59)⟩,
                ⟨some 61, none, .mov (.t 60)⟩,
                ⟨some 62, some (61, true), .mov (.t 0)⟩,
                ⟨some 63, some (61, true), .mov (.t 4)⟩,
                ⟨some 64, some (61, true), .idxS (.t 62) (.t 63)⟩,
                ⟨some 65, some (61, true), .bin .leq (.t 64) (.c (.int .u8 57))⟩,
                ⟨some 66, none, .pick (.t 61) (.t 65) (.c (.bool false))⟩,
                ⟨some 67, none, .mov (.t 66)⟩,
                ⟨some 68, some (67, false), .mov (.t 5)⟩,
                ⟨some 69, some (67, false), .mov (.t 68)⟩,
                ⟨some 70, some (69, true), .mov (.t 0)⟩,
                ⟨some 71, some (69, true), .mov (.t 4)⟩,
                ⟨some 72, some (69, true), .idxS (.t 70) (.t 71)⟩,
                ⟨some 73, some (69, true), .call false 98 [(.t 72)]⟩,
                ⟨some 74, some (69, true), .bin .leq (.c (.int .u8 97)) (.t 73)⟩,
                ⟨some 75, some (67, false), .pick (.t 69) (.t 74) (.c (.bool false))⟩,
                ⟨some 76, some (67, false), .mov (.t 75)⟩,
                ⟨some 77, some (76, true), .mov (.t 0)⟩,
                ⟨some 78, some (76, true), .mov (.t 4)⟩,
                ⟨some 79, some (76, true), .idxS (.t 77) (.t 78)⟩,
                ⟨some 80, some (76, true), .call false 98 [(.t 79)]⟩,
                ⟨some 81, some (76, true), .bin .leq (.t 80) (.c (.int .u8 102))⟩,
                ⟨some 82, some (67, false), .pick (.t 76) (.t 81) (.c (.bool false))⟩,
                ⟨some 83, none, .pick (.t 67) (.c (.bool true)) (.t 82)⟩])
               (.cond (.t 83)
                (.seq
                 (.reg [⟨some 3, none, .mov (.c (.int .i32 48))⟩])
                 (.exit 1))
                .skip))
              (.seq
               (.seq
                (.reg [⟨some 84, none, .mov (.t 0)⟩,
                 ⟨some 85, none, .mov (.t 4)⟩,
                 ⟨some 86, none, .idxS (.t 84) (.t 85)⟩,
                 ⟨some 87, none, .bin .eql (.t 86) (.c (.int .u8 95))⟩])
                (.cond (.t 87)
                 (.seq
                  (.seq
                   (.reg [⟨some 88, none, .mov (.t 3)⟩,
                    ⟨some 89, none, .bin .neq (.t 88) (.c (.int .i32 48))⟩])
                   (.cond (.t 89)
                    (.seq
                     (.reg [⟨some 2, none, .mov (.c (.bool false))⟩])
                     .ret)
                    .skip))
                  (.seq
                   (.reg [⟨some 3, none, .mov (.c (.int .i32 95))⟩])
                   (.exit 1)))
                 .skip))
               (.seq
                (.seq
                 (.reg [⟨some 90, none, .mov (.t 3)⟩,
                  ⟨some 91, none, .bin .eql (.t 90) (.c (.int .i32 95))⟩])
                 (.cond (.t 91)
                  (.seq
                   (.reg [⟨some 2, none, .mov (.c (.bool false))⟩])
                   .ret)
                  .skip))
                (.reg [⟨some 3, none, .mov (.c (.int .i32 33))⟩])))))
            (.reg [⟨some 55, none, .mov (.t 4)⟩,
             ⟨some 56, none, .bin .add (.t 55) (.c (.int .i64 1))⟩,
             ⟨some 4, none, .mov (.t 56)⟩])))
/-- internal/strconv.underscoreOK -/
def c99 : AFn := ⟨1, 94, [.t 2],
 (.seq
  (.reg [⟨some 2, none, .mov (.c (.bool false))⟩])
  (.seq
   (.reg [⟨some 3, none, .mov (.c (.int .i32 94))⟩])
   (.seq
    (.reg [⟨some 4, none, .mov (.c (.int .i64 0))⟩])
    (.seq
     (.seq
      (.reg [⟨some 6, none, .mov (.t 0)⟩,
       ⟨some 7, none, .lenS (.t 6)⟩,
       ⟨some 8, none, .bin .geq (.t 7) (.c (.int .i64 1))⟩,
       ⟨some 9, none, .mov (.t 8)⟩,
       ⟨some 10, some (9, true), .mov (.t 0)⟩,
       ⟨some 11, some (9, true), .idxS (.t 10) (.c (.int .i64 0))⟩,
       ⟨some 12, some (9, true), .bin .eql (.t 11) (.c (.int .u8 45))⟩,
       ⟨some 13, some (9, true), .mov (.t 12)⟩,
       ⟨some 14, some (13, false), .mov (.t 0)⟩,
       ⟨some 15, some (13, false), .idxS (.t 14) (.c (.int .i64 0))⟩,
       ⟨some 16, some (13, false), .bin .eql (.t 15) (.c (.int .u8 43))⟩,
       ⟨some 17, some (9, true), .pick (.t 13) (.c (.bool true)) (.t 16)⟩,
       ⟨some 18, none, .pick (.t 9) (.t 17) (.c (.bool false))⟩])
      (.cond (.t 18)
       (.reg [⟨some 19, none, .mov (.t 0)⟩,
        ⟨some 20, none, .slc .string (.t 19) (some (.c (.int .i64 1))) none none⟩,
        ⟨some 0, none, .mov (.t 20)⟩])
       .skip))
     (.seq
      (.reg [⟨some 5, none, .mov (.c (.bool false))⟩])
      (.seq
       (.seq
        (.reg [⟨some 21, none, .mov (.t 0)⟩,
         ⟨some 22, none, .lenS (.t 21)⟩,
         ⟨some 23, none, .bin .geq (.t 22) (.c (.int .i64 2))⟩,
         ⟨some 24, none, .mov (.t 23)⟩,
         ⟨some 25, some (24, true), .mov (.t 0)⟩,
         ⟨some 26, some (24, true), .idxS (.t 25) (.c (.int .i64 0))⟩,
         ⟨some 27, some (24, true), .bin .eql (.t 26) (.c (.int .u8 48))⟩,
         ⟨some 28, none, .pick (.t 24) (.t 27) (.c (.bool false))⟩,
         ⟨some 29, none, .mov (.t 28)⟩,
         ⟨some 30, some (29, true), .mov (.t 0)⟩,
         ⟨some 31, some (29, true), .idxS (.t 30) (.c (.int .i64 1))⟩,
         ⟨some 32, some (29, true), .call false 98 [(.t 31)]⟩,
         ⟨some 33, some (29, true), .bin .eql (.t 32) (.c (.int .u8 98))⟩,
         ⟨some 34, some (29, true), .mov (.t 33)⟩,
         ⟨some 35, some (34, false), .mov (.t 0)⟩,
         ⟨some 36, some (34, false), .idxS (.t 35) (.c (.int .i64 1))⟩,
         ⟨some 37, some (34, false), .call false 98 [(.t 36)]⟩,
         ⟨some 38, some (34, false), .bin .eql (.t 37) (.c (.int .u8 111))⟩,
         ⟨some 39, some (29, true), .pick (.t 34) (.c (.bool true)) (.t 38)⟩,
         ⟨some 40, some (29, true), .mov (.t 39)⟩,
         ⟨some 41, some (40, false), .mov (.t 0)⟩,
         ⟨some 42, some (40, false), .idxS (.t 41) (.c (.int .i64 1))⟩,
         ⟨some 43, some (40, false), .call false 98 [(.t 42)]⟩,
         ⟨some 44, some (40, false), .bin .eql (.t 43) (.c (.int .u8 120))⟩,
         ⟨some 45, some (29, true), .pick (.t 40) (.c (.bool true)) (.t 44)⟩,
         ⟨some 46, none, .pick (.t 29) (.t 45) (.c (.bool false))⟩])
        (.cond (.t 46)
         (.seq
          (.reg [⟨some 4, none, .mov (.c (.int .i64 2))⟩])
          (.seq
           (.reg [⟨some 3, none, .mov (.c (.int .i32 48))⟩])
           (.reg [⟨some 47, none, .mov (.t 0)⟩,
            ⟨some 48, none, .idxS (.t 47) (.c (.int .i64 1))⟩,
            ⟨some 49, none, .call false 98 [(.t 48)]⟩,
            ⟨some 50, none, .bin .eql (.t 49) (.c (.int .u8 120))⟩,
            ⟨some 5, none, .mov (.t 50)⟩])))
         .skip))
       (.seq
        (.block 0
         (.loop [0, 3, 4, 5]
          c99b0))
        (.seq
         (.reg [⟨some 92, none, .mov (.t 3)⟩,
          ⟨some 93, none, .bin .neq (.t 92) (.c (.int .i32 95))⟩,
          ⟨some 2, none, .mov (.t 93)⟩])
         .ret)))))))), none⟩
def k99 : List (List Nat) := [[0, 3, 4, 5]]
def o99 : List Nat := [1000049, 1000050, 3000000]
def c94 : AFn := ⟨1, 0, [], .skip, some (.p xIdx)⟩
def c70 : AFn := ⟨1, 0, [], .skip, some (.p xCnt)⟩
def tbl : List (Nat × AFn) := [(70, c70), (94, c94), (3, c3), (4, c4), (5, c5), (6, c6), (7, c7), (8, c8), (9, c9), (10, c10), (11, c11), (12, c12), (13, c13), (14, c14), (15, c15), (16, c16), (17, c17), (18, c18), (19, c19), (20, c20), (21, c21), (22, c22), (23, c23), (24, c24), (25, c25), (26, c26), (27, c27), (28, c28), (29, c29), (30, c30), (31, c31), (32, c32), (33, c33), (34, c34), (35, c35), (36, c36), (37, c37), (38, c38), (39, c39), (40, c40), (41, c41), (42, c42), (43, c43), (44, c44), (45, c45), (46, c46), (47, c47), (48, c48), (49, c49), (50, c50), (51, c51), (52, c52), (53, c53), (54, c54), (55, c55), (56, c56), (57, c57), (58, c58), (59, c59), (60, c60), (61, c61), (62, c62), (63, c63), (66, c66), (67, c67), (68, c68), (69, c69), (71, c71), (72, c72), (73, c73), (74, c74), (75, c75), (76, c76), (77, c77), (78, c78), (79, c79), (80, c80), (81, c81), (82, c82), (84, c84), (85, c85), (86, c86), (87, c87), (88, c88), (89, c89), (90, c90), (91, c91), (92, c92), (93, c93), (95, c95), (96, c96), (97, c97), (98, c98), (99, c99)]
theorem d3 : digFn Tryd.prog o3 k3 Tryd.f3 = some c3 := by kernel_rfl
theorem d4 : digFn Tryd.prog o4 k4 Tryd.f4 = some c4 := by kernel_rfl
theorem d5 : digFn Tryd.prog o5 k5 Tryd.f5 = some c5 := by kernel_rfl
theorem d6 : digFn Tryd.prog o6 k6 Tryd.f6 = some c6 := by kernel_rfl
theorem d7 : digFn Tryd.prog o7 k7 Tryd.f7 = some c7 := by kernel_rfl
theorem d8 : digFn Tryd.prog o8 k8 Tryd.f8 = some c8 := by kernel_rfl
theorem d9 : digFn Tryd.prog o9 k9 Tryd.f9 = some c9 := by kernel_rfl
theorem d10 : digFn Tryd.prog o10 k10 Tryd.f10 = some c10 := by kernel_rfl
theorem d11 : digFn Tryd.prog o11 k11 Tryd.f11 = some c11 := by kernel_rfl
theorem d12 : digFn Tryd.prog o12 k12 Tryd.f12 = some c12 := by kernel_rfl
theorem d13 : digFn Tryd.prog o13 k13 Tryd.f13 = some c13 := by kernel_rfl
theorem d14 : digFn Tryd.prog o14 k14 Tryd.f14 = some c14 := by kernel_rfl
theorem d15 : digFn Tryd.prog o15 k15 Tryd.f15 = some c15 := by kernel_rfl
theorem d16 : digFn Tryd.prog o16 k16 Tryd.f16 = some c16 := by kernel_rfl
theorem d17 : digFn Tryd.prog o17 k17 Tryd.f17 = some c17 := by kernel_rfl
theorem d18 : digFn Tryd.prog o18 k18 Tryd.f18 = some c18 := by kernel_rfl
theorem d19 : digFn Tryd.prog o19 k19 Tryd.f19 = some c19 := by kernel_rfl
theorem d20 : digFn Tryd.prog o20 k20 Tryd.f20 = some c20 := by kernel_rfl
theorem d21 : digFn Tryd.prog o21 k21 Tryd.f21 = some c21 := by kernel_rfl
theorem d22 : digFn Tryd.prog o22 k22 Tryd.f22 = some c22 := by kernel_rfl
theorem d23 : digFn Tryd.prog o23 k23 Tryd.f23 = some c23 := by kernel_rfl
theorem d24 : digFn Tryd.prog o24 k24 Tryd.f24 = some c24 := by kernel_rfl
theorem d25 : digFn Tryd.prog o25 k25 Tryd.f25 = some c25 := by kernel_rfl
theorem d26 : digFn Tryd.prog o26 k26 Tryd.f26 = some c26 := by kernel_rfl
theorem d27 : digFn Tryd.prog o27 k27 Tryd.f27 = some c27 := by kernel_rfl
theorem d28 : digFn Tryd.prog o28 k28 Tryd.f28 = some c28 := by kernel_rfl
theorem d29 : digFn Tryd.prog o29 k29 Tryd.f29 = some c29 := by kernel_rfl
theorem d30 : digFn Tryd.prog o30 k30 Tryd.f30 = some c30 := by kernel_rfl
theorem d31 : digFn Tryd.prog o31 k31 Tryd.f31 = some c31 := by kernel_rfl
theorem d33 : digFn Tryd.prog o33 k33 Tryd.f33 = some c33 := by kernel_rfl
theorem d34 : digFn Tryd.prog o34 k34 Tryd.f34 = some c34 := by kernel_rfl
theorem d35 : digFn Tryd.prog o35 k35 Tryd.f35 = some c35 := by kernel_rfl
theorem d36 : digFn Tryd.prog o36 k36 Tryd.f36 = some c36 := by kernel_rfl
theorem d37 : digFn Tryd.prog o37 k37 Tryd.f37 = some c37 := by kernel_rfl
theorem d38 : digFn Tryd.prog o38 k38 Tryd.f38 = some c38 := by kernel_rfl
theorem d39 : digFn Tryd.prog o39 k39 Tryd.f39 = some c39 := by kernel_rfl
theorem d40 : digFn Tryd.prog o40 k40 Tryd.f40 = some c40 := by kernel_rfl
theorem d41 : digFn Tryd.prog o41 k41 Tryd.f41 = some c41 := by kernel_rfl
theorem d42 : digFn Tryd.prog o42 k42 Tryd.f42 = some c42 := by kernel_rfl
theorem d43 : digFn Tryd.prog o43 k43 Tryd.f43 = some c43 := by kernel_rfl
theorem d44 : digFn Tryd.prog o44 k44 Tryd.f44 = some c44 := by kernel_rfl
theorem d46 : digFn Tryd.prog o46 k46 Tryd.f46 = some c46 := by kernel_rfl
theorem d47 : digFn Tryd.prog o47 k47 Tryd.f47 = some c47 := by kernel_rfl
theorem d48 : digFn Tryd.prog o48 k48 Tryd.f48 = some c48 := by kernel_rfl
theorem d49 : digFn Tryd.prog o49 k49 Tryd.f49 = some c49 := by kernel_rfl
theorem d50 : digFn Tryd.prog o50 k50 Tryd.f50 = some c50 := by kernel_rfl
theorem d51 : digFn Tryd.prog o51 k51 Tryd.f51 = some c51 := by kernel_rfl
theorem d52 : digFn Tryd.prog o52 k52 Tryd.f52 = some c52 := by kernel_rfl
theorem d53 : digFn Tryd.prog o53 k53 Tryd.f53 = some c53 := by kernel_rfl
theorem d54 : digFn Tryd.prog o54 k54 Tryd.f54 = some c54 := by kernel_rfl
theorem d55 : digFn Tryd.prog o55 k55 Tryd.f55 = some c55 := by kernel_rfl
theorem d56 : digFn Tryd.prog o56 k56 Tryd.f56 = some c56 := by kernel_rfl
theorem d58 : digFn Tryd.prog o58 k58 Tryd.f58 = some c58 := by kernel_rfl
theorem d59 : digFn Tryd.prog o59 k59 Tryd.f59 = some c59 := by kernel_rfl
theorem d60 : digFn Tryd.prog o60 k60 Tryd.f60 = some c60 := by kernel_rfl
theorem d61 : digFn Tryd.prog o61 k61 Tryd.f61 = some c61 := by kernel_rfl
theorem d62 : digFn Tryd.prog o62 k62 Tryd.f62 = some c62 := by kernel_rfl
theorem d63 : digFn Tryd.prog o63 k63 Tryd.f63 = some c63 := by kernel_rfl
theorem d66 : digFn Tryd.prog o66 k66 Tryd.f66 = some c66 := by kernel_rfl
theorem d67 : digFn Tryd.prog o67 k67 Tryd.f67 = some c67 := by kernel_rfl
theorem d68 : digFn Tryd.prog o68 k68 Tryd.f68 = some c68 := by kernel_rfl
theorem d69 : digFn Tryd.prog o69 k69 Tryd.f69 = some c69 := by kernel_rfl
theorem d71 : digFn Tryd.prog o71 k71 Tryd.f71 = some c71 := by kernel_rfl
theorem d72 : digFn Tryd.prog o72 k72 Tryd.f72 = some c72 := by kernel_rfl
theorem d73 : digFn Tryd.prog o73 k73 Tryd.f73 = some c73 := by kernel_rfl
theorem d74 : digFn Tryd.prog o74 k74 Tryd.f74 = some c74 := by kernel_rfl
theorem d75 : digFn Tryd.prog o75 k75 Tryd.f75 = some c75 := by kernel_rfl
theorem d76 : digFn Tryd.prog o76 k76 Tryd.f76 = some c76 := by kernel_rfl
theorem d77 : digFn Tryd.prog o77 k77 Tryd.f77 = some c77 := by kernel_rfl
theorem d78 : digFn Tryd.prog o78 k78 Tryd.f78 = some c78 := by kernel_rfl
theorem d79 : digFn Tryd.prog o79 k79 Tryd.f79 = some c79 := by kernel_rfl
theorem d80 : digFn Tryd.prog o80 k80 Tryd.f80 = some c80 := by kernel_rfl
theorem d81 : digFn Tryd.prog o81 k81 Tryd.f81 = some c81 := by kernel_rfl
theorem d82 : digFn Tryd.prog o82 k82 Tryd.f82 = some c82 := by kernel_rfl
theorem d84 : digFn Tryd.prog o84 k84 Tryd.f84 = some c84 := by kernel_rfl
theorem d85 : digFn Tryd.prog o85 k85 Tryd.f85 = some c85 := by kernel_rfl
theorem d86 : digFn Tryd.prog o86 k86 Tryd.f86 = some c86 := by kernel_rfl
theorem d87 : digFn Tryd.prog o87 k87 Tryd.f87 = some c87 := by kernel_rfl
theorem d88 : digFn Tryd.prog o88 k88 Tryd.f88 = some c88 := by kernel_rfl
theorem d89 : digFn Tryd.prog o89 k89 Tryd.f89 = some c89 := by kernel_rfl
theorem d90 : digFn Tryd.prog o90 k90 Tryd.f90 = some c90 := by kernel_rfl
theorem d91 : digFn Tryd.prog o91 k91 Tryd.f91 = some c91 := by kernel_rfl
theorem d92 : digFn Tryd.prog o92 k92 Tryd.f92 = some c92 := by kernel_rfl
theorem d93 : digFn Tryd.prog o93 k93 Tryd.f93 = some c93 := by kernel_rfl
theorem d95 : digFn Tryd.prog o95 k95 Tryd.f95 = some c95 := by kernel_rfl
theorem d96 : digFn Tryd.prog o96 k96 Tryd.f96 = some c96 := by kernel_rfl
theorem d97 : digFn Tryd.prog o97 k97 Tryd.f97 = some c97 := by kernel_rfl
theorem d98 : digFn Tryd.prog o98 k98 Tryd.f98 = some c98 := by kernel_rfl
theorem d99 : digFn Tryd.prog o99 k99 Tryd.f99 = some c99 := by kernel_rfl
def Dg (f : Nat) : Option AFn := lookP tbl f
theorem D3 : Dg 3 = some c3 := by kernel_rfl
theorem D4 : Dg 4 = some c4 := by kernel_rfl
theorem D5 : Dg 5 = some c5 := by kernel_rfl
theorem D6 : Dg 6 = some c6 := by kernel_rfl
theorem D7 : Dg 7 = some c7 := by kernel_rfl
theorem D8 : Dg 8 = some c8 := by kernel_rfl
theorem D9 : Dg 9 = some c9 := by kernel_rfl
theorem D10 : Dg 10 = some c10 := by kernel_rfl
theorem D11 : Dg 11 = some c11 := by kernel_rfl
theorem D12 : Dg 12 = some c12 := by kernel_rfl
theorem D13 : Dg 13 = some c13 := by kernel_rfl
theorem D14 : Dg 14 = some c14 := by kernel_rfl
theorem D15 : Dg 15 = some c15 := by kernel_rfl
theorem D16 : Dg 16 = some c16 := by kernel_rfl
theorem D17 : Dg 17 = some c17 := by kernel_rfl
theorem D18 : Dg 18 = some c18 := by kernel_rfl
theorem D19 : Dg 19 = some c19 := by kernel_rfl
theorem D20 : Dg 20 = some c20 := by kernel_rfl
theorem D21 : Dg 21 = some c21 := by kernel_rfl
theorem D22 : Dg 22 = some c22 := by kernel_rfl
theorem D23 : Dg 23 = some c23 := by kernel_rfl
theorem D24 : Dg 24 = some c24 := by kernel_rfl
theorem D25 : Dg 25 = some c25 := by kernel_rfl
theorem D26 : Dg 26 = some c26 := by kernel_rfl
theorem D27 : Dg 27 = some c27 := by kernel_rfl
theorem D28 : Dg 28 = some c28 := by kernel_rfl
theorem D29 : Dg 29 = some c29 := by kernel_rfl
theorem D30 : Dg 30 = some c30 := by kernel_rfl
theorem D31 : Dg 31 = some c31 := by kernel_rfl
theorem D32 : Dg 32 = some c32 := by kernel_rfl
theorem D33 : Dg 33 = some c33 := by kernel_rfl
theorem D34 : Dg 34 = some c34 := by kernel_rfl
theorem D35 : Dg 35 = some c35 := by kernel_rfl
theorem D36 : Dg 36 = some c36 := by kernel_rfl
theorem D37 : Dg 37 = some c37 := by kernel_rfl
theorem D38 : Dg 38 = some c38 := by kernel_rfl
theorem D39 : Dg 39 = some c39 := by kernel_rfl
theorem D40 : Dg 40 = some c40 := by kernel_rfl
theorem D41 : Dg 41 = some c41 := by kernel_rfl
theorem D42 : Dg 42 = some c42 := by kernel_rfl
theorem D43 : Dg 43 = some c43 := by kernel_rfl
theorem D44 : Dg 44 = some c44 := by kernel_rfl
theorem D45 : Dg 45 = some c45 := by kernel_rfl
theorem D46 : Dg 46 = some c46 := by kernel_rfl
theorem D47 : Dg 47 = some c47 := by kernel_rfl
theorem D48 : Dg 48 = some c48 := by kernel_rfl
theorem D49 : Dg 49 = some c49 := by kernel_rfl
theorem D50 : Dg 50 = some c50 := by kernel_rfl
theorem D51 : Dg 51 = some c51 := by kernel_rfl
theorem D52 : Dg 52 = some c52 := by kernel_rfl
theorem D53 : Dg 53 = some c53 := by kernel_rfl
theorem D54 : Dg 54 = some c54 := by kernel_rfl
theorem D55 : Dg 55 = some c55 := by kernel_rfl
theorem D56 : Dg 56 = some c56 := by kernel_rfl
theorem D57 : Dg 57 = some c57 := by kernel_rfl
theorem D58 : Dg 58 = some c58 := by kernel_rfl
theorem D59 : Dg 59 = some c59 := by kernel_rfl
theorem D60 : Dg 60 = some c60 := by kernel_rfl
theorem D61 : Dg 61 = some c61 := by kernel_rfl
theorem D62 : Dg 62 = some c62 := by kernel_rfl
theorem D63 : Dg 63 = some c63 := by kernel_rfl
theorem D66 : Dg 66 = some c66 := by kernel_rfl
theorem D67 : Dg 67 = some c67 := by kernel_rfl
theorem D68 : Dg 68 = some c68 := by kernel_rfl
theorem D69 : Dg 69 = some c69 := by kernel_rfl
theorem D71 : Dg 71 = some c71 := by kernel_rfl
theorem D72 : Dg 72 = some c72 := by kernel_rfl
theorem D73 : Dg 73 = some c73 := by kernel_rfl
theorem D74 : Dg 74 = some c74 := by kernel_rfl
theorem D75 : Dg 75 = some c75 := by kernel_rfl
theorem D76 : Dg 76 = some c76 := by kernel_rfl
theorem D77 : Dg 77 = some c77 := by kernel_rfl
theorem D78 : Dg 78 = some c78 := by kernel_rfl
theorem D79 : Dg 79 = some c79 := by kernel_rfl
theorem D80 : Dg 80 = some c80 := by kernel_rfl
theorem D81 : Dg 81 = some c81 := by kernel_rfl
theorem D82 : Dg 82 = some c82 := by kernel_rfl
theorem D84 : Dg 84 = some c84 := by kernel_rfl
theorem D85 : Dg 85 = some c85 := by kernel_rfl
theorem D86 : Dg 86 = some c86 := by kernel_rfl
theorem D87 : Dg 87 = some c87 := by kernel_rfl
theorem D88 : Dg 88 = some c88 := by kernel_rfl
theorem D89 : Dg 89 = some c89 := by kernel_rfl
theorem D90 : Dg 90 = some c90 := by kernel_rfl
theorem D91 : Dg 91 = some c91 := by kernel_rfl
theorem D92 : Dg 92 = some c92 := by kernel_rfl
theorem D93 : Dg 93 = some c93 := by kernel_rfl
theorem D95 : Dg 95 = some c95 := by kernel_rfl
theorem D96 : Dg 96 = some c96 := by kernel_rfl
theorem D97 : Dg 97 = some c97 := by kernel_rfl
theorem D98 : Dg 98 = some c98 := by kernel_rfl
theorem D99 : Dg 99 = some c99 := by kernel_rfl
theorem D94 : Dg 94 = some c94 := by kernel_rfl
theorem D70 : Dg 70 = some c70 := by kernel_rfl
theorem dokL [Bs] (hT : TabOk) : ∀ x ∈ tbl, FnOk Tryd.prog x.1 x.2 :=
  all_cons (show FnOk Tryd.prog 70 c70 from ext70) (
  all_cons (show FnOk Tryd.prog 94 c94 from ext94) (
  all_cons (fnok Tryd.func3 d3) (
  all_cons (fnok Tryd.func4 d4) (
  all_cons (fnok Tryd.func5 d5) (
  all_cons (fnok Tryd.func6 d6) (
  all_cons (fnok Tryd.func7 d7) (
  all_cons (fnok Tryd.func8 d8) (
  all_cons (fnok Tryd.func9 d9) (
  all_cons (fnok Tryd.func10 d10) (
  all_cons (fnok Tryd.func11 d11) (
  all_cons (fnok Tryd.func12 d12) (
  all_cons (fnok Tryd.func13 d13) (
  all_cons (fnok Tryd.func14 d14) (
  all_cons (fnok Tryd.func15 d15) (
  all_cons (fnok Tryd.func16 d16) (
  all_cons (fnok Tryd.func17 d17) (
  all_cons (fnok Tryd.func18 d18) (
  all_cons (fnok Tryd.func19 d19) (
  all_cons (fnok Tryd.func20 d20) (
  all_cons (fnok Tryd.func21 d21) (
  all_cons (fnok Tryd.func22 d22) (
  all_cons (fnok Tryd.func23 d23) (
  all_cons (fnok Tryd.func24 d24) (
  all_cons (fnok Tryd.func25 d25) (
  all_cons (fnok Tryd.func26 d26) (
  all_cons (fnok Tryd.func27 d27) (
  all_cons (fnok Tryd.func28 d28) (
  all_cons (fnok Tryd.func29 d29) (
  all_cons (fnok Tryd.func30 d30) (
  all_cons (fnok Tryd.func31 d31) (
  all_cons (show FnOk Tryd.prog 32 c32 from ext32) (
  all_cons (fnok Tryd.func33 d33) (
  all_cons (fnok Tryd.func34 d34) (
  all_cons (fnok Tryd.func35 d35) (
  all_cons (fnok Tryd.func36 d36) (
  all_cons (fnok Tryd.func37 d37) (
  all_cons (fnok Tryd.func38 d38) (
  all_cons (fnok Tryd.func39 d39) (
  all_cons (fnok Tryd.func40 d40) (
  all_cons (fnok Tryd.func41 d41) (
  all_cons (fnok Tryd.func42 d42) (
  all_cons (fnok Tryd.func43 d43) (
  all_cons (fnok Tryd.func44 d44) (
  all_cons (show FnOk Tryd.prog 45 c45 from ext45 hT) (
  all_cons (fnok Tryd.func46 d46) (
  all_cons (fnok Tryd.func47 d47) (
  all_cons (fnok Tryd.func48 d48) (
  all_cons (fnok Tryd.func49 d49) (
  all_cons (fnok Tryd.func50 d50) (
  all_cons (fnok Tryd.func51 d51) (
  all_cons (fnok Tryd.func52 d52) (
  all_cons (fnok Tryd.func53 d53) (
  all_cons (fnok Tryd.func54 d54) (
  all_cons (fnok Tryd.func55 d55) (
  all_cons (fnok Tryd.func56 d56) (
  all_cons (show FnOk Tryd.prog 57 c57 from ext57 hT) (
  all_cons (fnok Tryd.func58 d58) (
  all_cons (fnok Tryd.func59 d59) (
  all_cons (fnok Tryd.func60 d60) (
  all_cons (fnok Tryd.func61 d61) (
  all_cons (fnok Tryd.func62 d62) (
  all_cons (fnok Tryd.func63 d63) (
  all_cons (fnok Tryd.func66 d66) (
  all_cons (fnok Tryd.func67 d67) (
  all_cons (fnok Tryd.func68 d68) (
  all_cons (fnok Tryd.func69 d69) (
  all_cons (fnok Tryd.func71 d71) (
  all_cons (fnok Tryd.func72 d72) (
  all_cons (fnok Tryd.func73 d73) (
  all_cons (fnok Tryd.func74 d74) (
  all_cons (fnok Tryd.func75 d75) (
  all_cons (fnok Tryd.func76 d76) (
  all_cons (fnok Tryd.func77 d77) (
  all_cons (fnok Tryd.func78 d78) (
  all_cons (fnok Tryd.func79 d79) (
  all_cons (fnok Tryd.func80 d80) (
  all_cons (fnok Tryd.func81 d81) (
  all_cons (fnok Tryd.func82 d82) (
  all_cons (fnok Tryd.func84 d84) (
  all_cons (fnok Tryd.func85 d85) (
  all_cons (fnok Tryd.func86 d86) (
  all_cons (fnok Tryd.func87 d87) (
  all_cons (fnok Tryd.func88 d88) (
  all_cons (fnok Tryd.func89 d89) (
  all_cons (fnok Tryd.func90 d90) (
  all_cons (fnok Tryd.func91 d91) (
  all_cons (fnok Tryd.func92 d92) (
  all_cons (fnok Tryd.func93 d93) (
  all_cons (fnok Tryd.func95 d95) (
  all_cons (fnok Tryd.func96 d96) (
  all_cons (fnok Tryd.func97 d97) (
  all_cons (fnok Tryd.func98 d98) (
  all_cons (fnok Tryd.func99 d99) (
  all_nil))))))))))))))))))))))))))))))))))))))))))))))))))))))))))))))))))))))))))))))))))))))))))))))
theorem dok (bs : Bs) (hT : @TabOk bs) : DOk Tryd.prog Dg := fun f fc h => dokL hT (f, fc) (lookP_mem h)

end Go.Proofs.YtidkdiooempkpaaDoor
