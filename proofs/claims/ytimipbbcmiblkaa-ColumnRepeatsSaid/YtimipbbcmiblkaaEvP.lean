/- The code of the functions, as it is read. -/
import Derived.Test.YtimipbbcmiblkaaGc
import Derived.Test.YtimipbbcmiblkaaProg
namespace Go.Proofs.Ytimipbbcmiblkaa
open Go
/-- tracebook/tracebooklaw33.ColumnValues -/
def c3 : AFn := ⟨2, 21, [.t 4],
 (.seq
  (.reg [⟨some 3, none, .box (.t 1)⟩,
   ⟨some 4, none, .mov (.c (.bool false))⟩])
  (.seq
   (.reg [⟨some 5, none, .faddr 2 (.t 3)⟩,
    ⟨some 6, none, .load 1 false (.t 5)⟩,
    ⟨some 7, none, .lenS (.t 6)⟩,
    ⟨some 8, none, .bin .gtr (.t 7) (.c (.int .i64 300))⟩,
    ⟨some 9, none, .mov (.t 8)⟩,
    ⟨some 10, some (9, false), .mov (.t 0)⟩,
    ⟨some 11, some (9, false), .load 3 true (.t 3)⟩,
    ⟨some 12, some (9, false), .call false 8 [(.t 10), (.t 11)]⟩,
    ⟨some 13, some (9, false), .mov (.t 0)⟩,
    ⟨some 14, some (9, false), .load 3 true (.t 3)⟩,
    ⟨some 15, some (9, false), .call false 9 [(.t 13), (.t 14)]⟩,
    ⟨some 16, some (9, false), .bin .eql (.t 12) (.t 15)⟩,
    ⟨some 17, some (9, false), .mov (.t 16)⟩,
    ⟨some 18, some (17, true), .call false 10 []⟩,
    ⟨some 19, some (9, false), .pick (.t 17) (.t 18) (.c (.bool false))⟩,
    ⟨some 20, none, .pick (.t 9) (.c (.bool true)) (.t 19)⟩,
    ⟨some 4, none, .mov (.t 20)⟩])
   .ret)), none⟩
def k3 : List (List Nat) := []
def o3 : List Nat := [1000038, 1000039, 1000040, 1000041, 1000044, 1000049, 1000050, 1000056, 3000000]
/-- tracebook/tracebooklaw33.ColumnEncodes -/
def c4 : AFn := ⟨2, 91, [.t 4],
 (.seq
  (.reg [⟨some 4, none, .mov (.c (.bool false))⟩])
  (.seq
   (.seq
    (.reg [⟨some 13, none, .call false 10 []⟩,
     ⟨some 14, none, .un .not (.t 13)⟩,
     ⟨some 15, none, .mov (.t 14)⟩,
     ⟨some 16, some (15, false), .mov (.t 1)⟩,
     ⟨some 17, some (15, false), .call false 11 [(.t 16)]⟩,
     ⟨some 18, some (15, false), .un .not (.t 17)⟩,
     ⟨some 19, none, .pick (.t 15) (.c (.bool true)) (.t 18)⟩])
    (.cond (.t 19)
     (.seq
      (.reg [⟨some 20, none, .call false 10 []⟩,
       ⟨some 4, none, .mov (.t 20)⟩])
      .ret)
     .skip))
   (.seq
    (.reg [⟨some 22, none, .mov (.t 0)⟩,
     ⟨some 23, none, .mov (.t 1)⟩,
     ⟨some 24, none, .call false 12 [(.t 22), (.t 23)]⟩,
     ⟨some 21, none, .mov (.t 24)⟩,
     ⟨some 25, none, .ext (.t 21) 0⟩,
     ⟨some 26, none, .ext (.t 21) 1⟩,
     ⟨some 5, none, .alloc [(.int .i64 0), (.int .i64 0), .nilS]⟩,
     ⟨none, none, .store 3 (.t 5) (.t 25)⟩,
     ⟨some 6, none, .mov (.t 26)⟩])
    (.seq
     (.reg [⟨some 28, none, .mov (.t 0)⟩,
      ⟨some 29, none, .mov (.t 1)⟩,
      ⟨some 30, none, .call false 13 [(.t 28), (.t 29)]⟩,
      ⟨some 27, none, .mov (.t 30)⟩,
      ⟨some 31, none, .ext (.t 27) 0⟩,
      ⟨some 32, none, .ext (.t 27) 1⟩,
      ⟨some 7, none, .alloc [(.int .i64 0), (.int .i64 0), .nilS]⟩,
      ⟨none, none, .store 3 (.t 7) (.t 31)⟩,
      ⟨some 8, none, .mov (.t 32)⟩])
     (.seq
      (.seq
       (.reg [⟨some 33, none, .mov (.t 6)⟩,
        ⟨some 34, none, .mov (.t 8)⟩,
        ⟨some 35, none, .bin .neq (.t 33) (.t 34)⟩,
        ⟨some 36, none, .mov (.t 35)⟩,
        ⟨some 37, some (36, false), .faddr 0 (.t 5)⟩,
        ⟨some 38, some (36, false), .load 1 false (.t 37)⟩,
        ⟨some 39, some (36, false), .faddr 0 (.t 7)⟩,
        ⟨some 40, some (36, false), .load 1 false (.t 39)⟩,
        ⟨some 41, some (36, false), .bin .neq (.t 38) (.t 40)⟩,
        ⟨some 42, none, .pick (.t 36) (.c (.bool true)) (.t 41)⟩,
        ⟨some 43, none, .mov (.t 42)⟩,
        ⟨some 44, some (43, false), .faddr 1 (.t 5)⟩,
        ⟨some 45, some (43, false), .load 1 false (.t 44)⟩,
        ⟨some 46, some (43, false), .faddr 1 (.t 7)⟩,
        ⟨some 47, some (43, false), .load 1 false (.t 46)⟩,
        ⟨some 48, some (43, false), .bin .neq (.t 45) (.t 47)⟩,
        ⟨some 49, none, .pick (.t 43) (.c (.bool true)) (.t 48)⟩,
        ⟨some 50, none, .mov (.t 49)⟩,
        ⟨some 51, some (50, false), .faddr 2 (.t 5)⟩,
        ⟨some 52, some (50, false), .load 1 false (.t 51)⟩,
        ⟨some 53, some (50, false), .conv .toStr (.t 52)⟩,
        ⟨some 54, some (50, false), .faddr 2 (.t 7)⟩,
        ⟨some 55, some (50, false), .load 1 false (.t 54)⟩,
        ⟨some 56, some (50, false), .conv .toStr (.t 55)⟩,
        ⟨some 57, some (50, false), .bin .neq (.t 53) (.t 56)⟩,
        ⟨some 58, none, .pick (.t 50) (.c (.bool true)) (.t 57)⟩])
       (.cond (.t 58)
        (.seq
         (.reg [⟨some 4, none, .mov (.c (.bool false))⟩])
         .ret)
        .skip))
      (.seq
       (.seq
        (.reg [⟨some 59, none, .mov (.t 6)⟩,
         ⟨some 60, none, .bin .neq (.t 59) (.c (.int .i64 0))⟩])
        (.cond (.t 60)
         (.seq
          (.reg [⟨some 4, none, .mov (.c (.bool true))⟩])
          .ret)
         .skip))
       (.seq
        (.reg [⟨some 62, none, .load 3 true (.t 5)⟩,
         ⟨some 63, none, .call false 14 [(.t 62)]⟩,
         ⟨some 61, none, .mov (.t 63)⟩,
         ⟨some 64, none, .ext (.t 61) 0⟩,
         ⟨some 65, none, .ext (.t 61) 1⟩,
         ⟨some 9, none, .mov (.t 64)⟩,
         ⟨some 10, none, .mov (.t 65)⟩])
        (.seq
         (.reg [⟨some 67, none, .load 3 true (.t 5)⟩,
          ⟨some 68, none, .call false 15 [(.t 67)]⟩,
          ⟨some 66, none, .mov (.t 68)⟩,
          ⟨some 69, none, .ext (.t 66) 0⟩,
          ⟨some 70, none, .ext (.t 66) 1⟩,
          ⟨some 11, none, .mov (.t 69)⟩,
          ⟨some 12, none, .mov (.t 70)⟩])
         (.seq
          (.reg [⟨some 71, none, .mov (.t 10)⟩,
           ⟨some 72, none, .bin .eql (.t 71) (.c (.int .i64 0))⟩,
           ⟨some 73, none, .mov (.t 72)⟩,
           ⟨some 74, some (73, true), .mov (.t 12)⟩,
           ⟨some 75, some (73, true), .bin .eql (.t 74) (.c (.int .i64 0))⟩,
           ⟨some 76, none, .pick (.t 73) (.t 75) (.c (.bool false))⟩,
           ⟨some 77, none, .mov (.t 76)⟩,
           ⟨some 78, some (77, true), .mov (.t 9)⟩,
           ⟨some 79, some (77, true), .mov (.t 1)⟩,
           ⟨some 80, some (77, true), .call false 16 [(.t 78), (.t 79)]⟩,
           ⟨some 81, none, .pick (.t 77) (.t 80) (.c (.bool false))⟩,
           ⟨some 82, none, .mov (.t 81)⟩,
           ⟨some 83, some (82, true), .mov (.t 11)⟩,
           ⟨some 84, some (82, true), .faddr 2 (.t 5)⟩,
           ⟨some 85, some (82, true), .load 1 false (.t 84)⟩,
           ⟨some 86, some (82, true), .iaddr (.slice 1) (.t 85) (.c (.int .i64 0))⟩,
           ⟨some 87, some (82, true), .load 1 false (.t 86)⟩,
           ⟨some 88, some (82, true), .conv (.int .i64) (.t 87)⟩,
           ⟨some 89, some (82, true), .bin .eql (.t 83) (.t 88)⟩,
           ⟨some 90, none, .pick (.t 82) (.t 89) (.c (.bool false))⟩,
           ⟨some 4, none, .mov (.t 90)⟩])
          .ret))))))))), none⟩
def k4 : List (List Nat) := []
def o4 : List Nat := [1000038, 1000039, 1000040, 1000041, 1000044, 1000049, 1000050, 1000056, 3000000]
/-- tracebook/tracebooklaw33.ColumnDecodes -/
def c5 : AFn := ⟨1, 105, [.t 2],
 (.seq
  (.reg [⟨some 1, none, .box (.t 0)⟩,
   ⟨some 2, none, .mov (.c (.bool false))⟩])
  (.seq
   (.seq
    (.reg [⟨some 13, none, .call false 10 []⟩,
     ⟨some 14, none, .un .not (.t 13)⟩,
     ⟨some 15, none, .mov (.t 14)⟩,
     ⟨some 16, some (15, false), .faddr 1 (.t 1)⟩,
     ⟨some 17, some (15, false), .load 1 false (.t 16)⟩,
     ⟨some 18, some (15, false), .bin .gtr (.t 17) (.c (.int .i64 60))⟩,
     ⟨some 19, some (15, false), .mov (.t 18)⟩,
     ⟨some 20, some (19, true), .faddr 1 (.t 1)⟩,
     ⟨some 21, some (19, true), .load 1 false (.t 20)⟩,
     ⟨some 22, some (19, true), .bin .leq (.t 21) (.c (.int .i64 20000))⟩,
     ⟨some 23, some (15, false), .pick (.t 19) (.t 22) (.c (.bool false))⟩,
     ⟨some 24, none, .pick (.t 15) (.c (.bool true)) (.t 23)⟩,
     ⟨some 25, none, .mov (.t 24)⟩,
     ⟨some 26, some (25, false), .faddr 2 (.t 1)⟩,
     ⟨some 27, some (25, false), .load 1 false (.t 26)⟩,
     ⟨some 28, some (25, false), .len (.t 27)⟩,
     ⟨some 29, some (25, false), .bin .gtr (.t 28) (.c (.int .i64 600))⟩,
     ⟨some 30, none, .pick (.t 25) (.c (.bool true)) (.t 29)⟩])
    (.cond (.t 30)
     (.seq
      (.reg [⟨some 31, none, .call false 10 []⟩,
       ⟨some 2, none, .mov (.t 31)⟩])
      .ret)
     .skip))
   (.seq
    (.reg [⟨some 33, none, .load 3 true (.t 1)⟩,
     ⟨some 34, none, .call false 14 [(.t 33)]⟩,
     ⟨some 32, none, .mov (.t 34)⟩,
     ⟨some 35, none, .ext (.t 32) 0⟩,
     ⟨some 36, none, .ext (.t 32) 1⟩,
     ⟨some 3, none, .mov (.t 35)⟩,
     ⟨some 4, none, .mov (.t 36)⟩])
    (.seq
     (.reg [⟨some 38, none, .load 3 true (.t 1)⟩,
      ⟨some 39, none, .call false 17 [(.t 38)]⟩,
      ⟨some 37, none, .mov (.t 39)⟩,
      ⟨some 40, none, .ext (.t 37) 0⟩,
      ⟨some 41, none, .ext (.t 37) 1⟩,
      ⟨some 5, none, .mov (.t 40)⟩,
      ⟨some 6, none, .mov (.t 41)⟩])
     (.seq
      (.reg [⟨some 43, none, .load 3 true (.t 1)⟩,
       ⟨some 44, none, .call false 15 [(.t 43)]⟩,
       ⟨some 42, none, .mov (.t 44)⟩,
       ⟨some 45, none, .ext (.t 42) 0⟩,
       ⟨some 46, none, .ext (.t 42) 1⟩,
       ⟨some 7, none, .mov (.t 45)⟩,
       ⟨some 8, none, .mov (.t 46)⟩])
      (.seq
       (.reg [⟨some 48, none, .load 3 true (.t 1)⟩,
        ⟨some 49, none, .call false 18 [(.t 48)]⟩,
        ⟨some 47, none, .mov (.t 49)⟩,
        ⟨some 50, none, .ext (.t 47) 0⟩,
        ⟨some 51, none, .ext (.t 47) 1⟩,
        ⟨some 9, none, .mov (.t 50)⟩,
        ⟨some 10, none, .mov (.t 51)⟩])
       (.seq
        (.seq
         (.reg [⟨some 52, none, .mov (.t 4)⟩,
          ⟨some 53, none, .mov (.t 6)⟩,
          ⟨some 54, none, .bin .neq (.t 52) (.t 53)⟩,
          ⟨some 55, none, .mov (.t 54)⟩,
          ⟨some 56, some (55, false), .mov (.t 3)⟩,
          ⟨some 57, some (55, false), .mov (.t 5)⟩,
          ⟨some 58, some (55, false), .call false 16 [(.t 56), (.t 57)]⟩,
          ⟨some 59, some (55, false), .un .not (.t 58)⟩,
          ⟨some 60, none, .pick (.t 55) (.c (.bool true)) (.t 59)⟩,
          ⟨some 61, none, .mov (.t 60)⟩,
          ⟨some 62, some (61, false), .mov (.t 8)⟩,
          ⟨some 63, some (61, false), .mov (.t 10)⟩,
          ⟨some 64, some (61, false), .bin .neq (.t 62) (.t 63)⟩,
          ⟨some 65, none, .pick (.t 61) (.c (.bool true)) (.t 64)⟩,
          ⟨some 66, none, .mov (.t 65)⟩,
          ⟨some 67, some (66, false), .mov (.t 7)⟩,
          ⟨some 68, some (66, false), .mov (.t 9)⟩,
          ⟨some 69, some (66, false), .bin .neq (.t 67) (.t 68)⟩,
          ⟨some 70, none, .pick (.t 66) (.c (.bool true)) (.t 69)⟩])
         (.cond (.t 70)
          (.seq
           (.reg [⟨some 2, none, .mov (.c (.bool false))⟩])
           .ret)
          .skip))
        (.seq
         (.seq
          (.reg [⟨some 71, none, .mov (.t 4)⟩,
           ⟨some 72, none, .bin .neq (.t 71) (.c (.int .i64 0))⟩])
          (.cond (.t 72)
           (.seq
            (.reg [⟨some 2, none, .mov (.c (.bool true))⟩])
            .ret)
           .skip))
         (.seq
          (.reg [⟨some 74, none, .faddr 0 (.t 1)⟩,
           ⟨some 75, none, .load 1 false (.t 74)⟩,
           ⟨some 76, none, .mov (.t 3)⟩,
           ⟨some 77, none, .call false 12 [(.t 75), (.t 76)]⟩,
           ⟨some 73, none, .mov (.t 77)⟩,
           ⟨some 78, none, .ext (.t 73) 0⟩,
           ⟨some 79, none, .ext (.t 73) 1⟩,
           ⟨some 11, none, .alloc [(.int .i64 0), (.int .i64 0), .nilS]⟩,
           ⟨none, none, .store 3 (.t 11) (.t 78)⟩,
           ⟨some 12, none, .mov (.t 79)⟩])
          (.seq
           (.reg [⟨some 80, none, .mov (.t 12)⟩,
            ⟨some 81, none, .bin .eql (.t 80) (.c (.int .i64 0))⟩,
            ⟨some 82, none, .mov (.t 81)⟩,
            ⟨some 83, some (82, true), .faddr 0 (.t 11)⟩,
            ⟨some 84, some (82, true), .load 1 false (.t 83)⟩,
            ⟨some 85, some (82, true), .faddr 0 (.t 1)⟩,
            ⟨some 86, some (82, true), .load 1 false (.t 85)⟩,
            ⟨some 87, some (82, true), .bin .eql (.t 84) (.t 86)⟩,
            ⟨some 88, none, .pick (.t 82) (.t 87) (.c (.bool false))⟩,
            ⟨some 89, none, .mov (.t 88)⟩,
            ⟨some 90, some (89, true), .faddr 1 (.t 11)⟩,
            ⟨some 91, some (89, true), .load 1 false (.t 90)⟩,
            ⟨some 92, some (89, true), .faddr 1 (.t 1)⟩,
            ⟨some 93, some (89, true), .load 1 false (.t 92)⟩,
            ⟨some 94, some (89, true), .bin .eql (.t 91) (.t 93)⟩,
            ⟨some 95, none, .pick (.t 89) (.t 94) (.c (.bool false))⟩,
            ⟨some 96, none, .mov (.t 95)⟩,
            ⟨some 97, some (96, true), .faddr 2 (.t 11)⟩,
            ⟨some 98, some (96, true), .load 1 false (.t 97)⟩,
            ⟨some 99, some (96, true), .conv .toStr (.t 98)⟩,
            ⟨some 100, some (96, true), .faddr 2 (.t 1)⟩,
            ⟨some 101, some (96, true), .load 1 false (.t 100)⟩,
            ⟨some 102, some (96, true), .conv .toStr (.t 101)⟩,
            ⟨some 103, some (96, true), .bin .eql (.t 99) (.t 102)⟩,
            ⟨some 104, none, .pick (.t 96) (.t 103) (.c (.bool false))⟩,
            ⟨some 2, none, .mov (.t 104)⟩])
           .ret)))))))))), none⟩
def k5 : List (List Nat) := []
def o5 : List Nat := [1000038, 1000039, 1000040, 1000041, 1000044, 1000049, 1000050, 1000056, 3000000]
def c6b0 : AC := (.seq
           (.seq
            (.reg [⟨some 25, none, .mov (.t 8)⟩,
             ⟨some 26, none, .mov (.t 1)⟩,
             ⟨some 27, none, .len (.t 26)⟩,
             ⟨some 28, none, .bin .lss (.t 25) (.t 27)⟩])
            (.cond (.t 28)
             .skip
             (.exit 0)))
           (.seq
            (.block 1
             (.seq
              (.reg [⟨some 31, none, .mov (.t 7)⟩,
               ⟨some 32, none, .bin .add (.t 31) (.c (.int .i64 1))⟩,
               ⟨some 7, none, .mov (.t 32)⟩])
              (.seq
               (.seq
                (.reg [⟨some 33, none, .mov (.t 1)⟩,
                 ⟨some 34, none, .mov (.t 8)⟩,
                 ⟨some 35, none, .iaddr (.slice 3) (.t 33) (.t 34)⟩,
                 ⟨some 36, none, .faddr 0 (.t 35)⟩,
                 ⟨some 37, none, .load 1 false (.t 36)⟩,
                 ⟨some 38, none, .bin .eql (.t 37) (.c (.int .i64 3))⟩])
                (.cond (.t 38)
                 (.reg [⟨some 39, none, .mov (.t 7)⟩,
                  ⟨some 40, none, .bin .add (.t 39) (.c (.int .i64 2))⟩,
                  ⟨some 41, none, .mov (.t 1)⟩,
                  ⟨some 42, none, .mov (.t 8)⟩,
                  ⟨some 43, none, .iaddr (.slice 3) (.t 41) (.t 42)⟩,
                  ⟨some 44, none, .faddr 2 (.t 43)⟩,
                  ⟨some 45, none, .load 1 false (.t 44)⟩,
                  ⟨some 46, none, .lenS (.t 45)⟩,
                  ⟨some 47, none, .bin .add (.t 40) (.t 46)⟩,
                  ⟨some 7, none, .mov (.t 47)⟩])
                 .skip))
               (.seq
                (.reg [⟨some 48, none, .mov (.t 1)⟩,
                 ⟨some 49, none, .mov (.t 8)⟩,
                 ⟨some 50, none, .iaddr (.slice 3) (.t 48) (.t 49)⟩,
                 ⟨some 51, none, .faddr 0 (.t 50)⟩,
                 ⟨some 52, none, .load 1 false (.t 51)⟩,
                 ⟨some 53, none, .bin .eql (.t 52) (.c (.int .i64 1))⟩,
                 ⟨some 54, none, .mov (.t 53)⟩,
                 ⟨some 55, some (54, false), .mov (.t 1)⟩,
                 ⟨some 56, some (54, false), .mov (.t 8)⟩,
                 ⟨some 57, some (54, false), .iaddr (.slice 3) (.t 55) (.t 56)⟩,
                 ⟨some 58, some (54, false), .faddr 0 (.t 57)⟩,
                 ⟨some 59, some (54, false), .load 1 false (.t 58)⟩,
                 ⟨some 60, some (54, false), .bin .eql (.t 59) (.c (.int .i64 2))⟩,
                 ⟨some 61, none, .pick (.t 54) (.c (.bool true)) (.t 60)⟩])
                (.cond (.t 61)
                 (.reg [⟨some 62, none, .mov (.t 7)⟩,
                  ⟨some 63, none, .bin .add (.t 62) (.c (.int .i64 10))⟩,
                  ⟨some 7, none, .mov (.t 63)⟩])
                 .skip)))))
            (.reg [⟨some 29, none, .mov (.t 8)⟩,
             ⟨some 30, none, .bin .add (.t 29) (.c (.int .i64 1))⟩,
             ⟨some 8, none, .mov (.t 30)⟩])))
/-- tracebook/tracebooklaw33.ColumnShort -/
def c6 : AFn := ⟨2, 69, [.t 4],
 (.seq
  (.reg [⟨some 4, none, .mov (.c (.bool false))⟩])
  (.seq
   (.seq
    (.reg [⟨some 9, none, .call false 10 []⟩,
     ⟨some 10, none, .un .not (.t 9)⟩,
     ⟨some 11, none, .mov (.t 10)⟩,
     ⟨some 12, some (11, false), .mov (.t 1)⟩,
     ⟨some 13, some (11, false), .call false 11 [(.t 12)]⟩,
     ⟨some 14, some (11, false), .un .not (.t 13)⟩,
     ⟨some 15, none, .pick (.t 11) (.c (.bool true)) (.t 14)⟩])
    (.cond (.t 15)
     (.seq
      (.reg [⟨some 16, none, .call false 10 []⟩,
       ⟨some 4, none, .mov (.t 16)⟩])
      .ret)
     .skip))
   (.seq
    (.reg [⟨some 18, none, .mov (.t 0)⟩,
     ⟨some 19, none, .mov (.t 1)⟩,
     ⟨some 20, none, .call false 12 [(.t 18), (.t 19)]⟩,
     ⟨some 17, none, .mov (.t 20)⟩,
     ⟨some 21, none, .ext (.t 17) 0⟩,
     ⟨some 22, none, .ext (.t 17) 1⟩,
     ⟨some 5, none, .alloc [(.int .i64 0), (.int .i64 0), .nilS]⟩,
     ⟨none, none, .store 3 (.t 5) (.t 21)⟩,
     ⟨some 6, none, .mov (.t 22)⟩])
    (.seq
     (.seq
      (.reg [⟨some 23, none, .mov (.t 6)⟩,
       ⟨some 24, none, .bin .neq (.t 23) (.c (.int .i64 0))⟩])
      (.cond (.t 24)
       (.seq
        (.reg [⟨some 4, none, .mov (.c (.bool true))⟩])
        .ret)
       .skip))
     (.seq
      (.reg [⟨some 7, none, .mov (.c (.int .i64 1))⟩])
      (.seq
       (.seq
        (.reg [⟨some 8, none, .mov (.c (.int .i64 0))⟩])
        (.block 0
         (.loop [1, 5, 7, 8]
          c6b0)))
       (.seq
        (.reg [⟨some 64, none, .faddr 2 (.t 5)⟩,
         ⟨some 65, none, .load 1 false (.t 64)⟩,
         ⟨some 66, none, .len (.t 65)⟩,
         ⟨some 67, none, .mov (.t 7)⟩,
         ⟨some 68, none, .bin .leq (.t 66) (.t 67)⟩,
         ⟨some 4, none, .mov (.t 68)⟩])
        .ret))))))), none⟩
def k6 : List (List Nat) := [[1, 5, 7, 8]]
def o6 : List Nat := [1000038, 1000039, 1000040, 1000041, 1000044, 1000049, 1000050, 1000056, 3000000]
def c7b0 : AC := (.seq
          (.seq
           (.reg [⟨some 40, none, .mov (.t 10)⟩,
            ⟨some 41, none, .mov (.t 2)⟩,
            ⟨some 42, none, .conv (.int .i64) (.t 41)⟩,
            ⟨some 43, none, .bin .rem (.t 42) (.c (.int .i64 5000))⟩,
            ⟨some 44, none, .bin .lss (.t 40) (.t 43)⟩])
           (.cond (.t 44)
            .skip
            (.exit 0)))
          (.seq
           (.block 1
            (.reg [⟨some 47, none, .mov (.t 9)⟩,
             ⟨some 48, none, .load 3 true (.t 4)⟩,
             ⟨some 49, none, .bslice false 3 [(.int .i64 0), (.int .i64 0), (.str [])] 1 [(0, (.t 48))]⟩,
             ⟨some 50, none, .append 3 32 (.t 47) (.t 49)⟩,
             ⟨some 9, none, .mov (.t 50)⟩]))
           (.reg [⟨some 45, none, .mov (.t 10)⟩,
            ⟨some 46, none, .bin .add (.t 45) (.c (.int .i64 1))⟩,
            ⟨some 10, none, .mov (.t 46)⟩])))
def c7r0 : AC := (.seq
       (.reg [⟨some 52, none, .mov (.t 0)⟩,
        ⟨some 53, none, .mov (.t 9)⟩,
        ⟨some 54, none, .call false 12 [(.t 52), (.t 53)]⟩,
        ⟨some 51, none, .mov (.t 54)⟩,
        ⟨some 55, none, .ext (.t 51) 0⟩,
        ⟨some 56, none, .ext (.t 51) 1⟩,
        ⟨some 11, none, .alloc [(.int .i64 0), (.int .i64 0), .nilS]⟩,
        ⟨none, none, .store 3 (.t 11) (.t 55)⟩,
        ⟨some 12, none, .mov (.t 56)⟩])
       (.seq
        (.seq
         (.reg [⟨some 57, none, .mov (.t 8)⟩,
          ⟨some 58, none, .bin .eql (.t 57) (.c (.int .i64 1))⟩,
          ⟨some 59, none, .mov (.t 58)⟩,
          ⟨some 60, some (59, true), .mov (.t 12)⟩,
          ⟨some 61, some (59, true), .bin .eql (.t 60) (.c (.int .i64 1))⟩,
          ⟨some 62, none, .pick (.t 59) (.t 61) (.c (.bool false))⟩])
         (.cond (.t 62)
          (.seq
           (.reg [⟨some 6, none, .mov (.c (.bool true))⟩])
           .ret)
          .skip))
        (.seq
         (.reg [⟨some 13, none, .mov (.c (.int .i64 5))⟩])
         (.seq
          (.seq
           (.reg [⟨some 63, none, .faddr 0 (.t 4)⟩,
            ⟨some 64, none, .load 1 false (.t 63)⟩,
            ⟨some 65, none, .bin .eql (.t 64) (.c (.int .i64 3))⟩])
           (.cond (.t 65)
            (.reg [⟨some 66, none, .mov (.t 13)⟩,
             ⟨some 67, none, .bin .add (.t 66) (.c (.int .i64 2))⟩,
             ⟨some 68, none, .faddr 2 (.t 4)⟩,
             ⟨some 69, none, .load 1 false (.t 68)⟩,
             ⟨some 70, none, .lenS (.t 69)⟩,
             ⟨some 71, none, .bin .add (.t 67) (.t 70)⟩,
             ⟨some 13, none, .mov (.t 71)⟩])
            .skip))
          (.seq
           (.seq
            (.reg [⟨some 72, none, .faddr 0 (.t 4)⟩,
             ⟨some 73, none, .load 1 false (.t 72)⟩,
             ⟨some 74, none, .bin .eql (.t 73) (.c (.int .i64 1))⟩,
             ⟨some 75, none, .mov (.t 74)⟩,
             ⟨some 76, some (75, false), .faddr 0 (.t 4)⟩,
             ⟨some 77, some (75, false), .load 1 false (.t 76)⟩,
             ⟨some 78, some (75, false), .bin .eql (.t 77) (.c (.int .i64 2))⟩,
             ⟨some 79, none, .pick (.t 75) (.c (.bool true)) (.t 78)⟩])
            (.cond (.t 79)
             (.reg [⟨some 80, none, .mov (.t 13)⟩,
              ⟨some 81, none, .bin .add (.t 80) (.c (.int .i64 10))⟩,
              ⟨some 13, none, .mov (.t 81)⟩])
             .skip))
           (.seq
            (.reg [⟨some 83, none, .load 3 true (.t 11)⟩,
             ⟨some 84, none, .call false 14 [(.t 83)]⟩,
             ⟨some 82, none, .mov (.t 84)⟩,
             ⟨some 85, none, .ext (.t 82) 0⟩,
             ⟨some 86, none, .ext (.t 82) 1⟩,
             ⟨some 14, none, .mov (.t 85)⟩,
             ⟨some 15, none, .mov (.t 86)⟩])
            (.seq
             (.reg [⟨some 87, none, .mov (.t 8)⟩,
              ⟨some 88, none, .bin .eql (.t 87) (.c (.int .i64 0))⟩,
              ⟨some 89, none, .mov (.t 88)⟩,
              ⟨some 90, some (89, true), .mov (.t 12)⟩,
              ⟨some 91, some (89, true), .bin .eql (.t 90) (.c (.int .i64 0))⟩,
              ⟨some 92, none, .pick (.t 89) (.t 91) (.c (.bool false))⟩,
              ⟨some 93, none, .mov (.t 92)⟩,
              ⟨some 94, some (93, true), .faddr 2 (.t 7)⟩,
              ⟨some 95, some (93, true), .load 1 false (.t 94)⟩,
              ⟨some 96, some (93, true), .len (.t 95)⟩,
              ⟨some 97, some (93, true), .bin .gtr (.t 96) (.c (.int .i64 0))⟩,
              ⟨some 98, none, .pick (.t 93) (.t 97) (.c (.bool false))⟩,
              ⟨some 99, none, .mov (.t 98)⟩,
              ⟨some 100, some (99, true), .faddr 2 (.t 11)⟩,
              ⟨some 101, some (99, true), .load 1 false (.t 100)⟩,
              ⟨some 102, some (99, true), .len (.t 101)⟩,
              ⟨some 103, some (99, true), .mov (.t 13)⟩,
              ⟨some 104, some (99, true), .bin .leq (.t 102) (.t 103)⟩,
              ⟨some 105, none, .pick (.t 99) (.t 104) (.c (.bool false))⟩,
              ⟨some 106, none, .mov (.t 105)⟩,
              ⟨some 107, some (106, true), .mov (.t 15)⟩,
              ⟨some 108, some (106, true), .bin .eql (.t 107) (.c (.int .i64 0))⟩,
              ⟨some 109, none, .pick (.t 106) (.t 108) (.c (.bool false))⟩,
              ⟨some 110, none, .mov (.t 109)⟩,
              ⟨some 111, some (110, true), .mov (.t 14)⟩,
              ⟨some 112, some (110, true), .len (.t 111)⟩,
              ⟨some 113, some (110, true), .mov (.t 9)⟩,
              ⟨some 114, some (110, true), .len (.t 113)⟩,
              ⟨some 115, some (110, true), .bin .eql (.t 112) (.t 114)⟩,
              ⟨some 116, none, .pick (.t 110) (.t 115) (.c (.bool false))⟩,
              ⟨some 6, none, .mov (.t 116)⟩])
             .ret)))))))
/-- tracebook/tracebooklaw33.ColumnRepeats -/
def c7 : AFn := ⟨3, 117, [.t 6],
 (.seq
  (.reg [⟨some 4, none, .box (.t 1)⟩,
   ⟨some 6, none, .mov (.c (.bool false))⟩])
  (.seq
   (.seq
    (.reg [⟨some 16, none, .call false 10 []⟩,
     ⟨some 17, none, .un .not (.t 16)⟩,
     ⟨some 18, none, .mov (.t 17)⟩,
     ⟨some 19, some (18, false), .faddr 2 (.t 4)⟩,
     ⟨some 20, some (18, false), .load 1 false (.t 19)⟩,
     ⟨some 21, some (18, false), .lenS (.t 20)⟩,
     ⟨some 22, some (18, false), .bin .gtr (.t 21) (.c (.int .i64 300))⟩,
     ⟨some 23, none, .pick (.t 18) (.c (.bool true)) (.t 22)⟩,
     ⟨some 24, none, .mov (.t 23)⟩,
     ⟨some 25, some (24, false), .mov (.t 0)⟩,
     ⟨some 26, some (24, false), .load 3 true (.t 4)⟩,
     ⟨some 27, some (24, false), .call false 8 [(.t 25), (.t 26)]⟩,
     ⟨some 28, some (24, false), .bin .neq (.t 27) (.c (.int .i64 0))⟩,
     ⟨some 29, none, .pick (.t 24) (.c (.bool true)) (.t 28)⟩])
    (.cond (.t 29)
     (.seq
      (.reg [⟨some 30, none, .call false 10 []⟩,
       ⟨some 6, none, .mov (.t 30)⟩])
      .ret)
     .skip))
   (.seq
    (.reg [⟨some 32, none, .mov (.t 0)⟩,
     ⟨some 33, none, .load 3 true (.t 4)⟩,
     ⟨some 34, none, .build [(.int .i64 0), (.int .i64 0), (.str [])] []⟩,
     ⟨some 35, none, .load 3 true (.t 4)⟩,
     ⟨some 36, none, .bslice false 3 [(.int .i64 0), (.int .i64 0), (.str [])] 3 [(0, (.t 33)), (1, (.t 34)), (2, (.t 35))]⟩,
     ⟨some 37, none, .call false 12 [(.t 32), (.t 36)]⟩,
     ⟨some 31, none, .mov (.t 37)⟩,
     ⟨some 38, none, .ext (.t 31) 0⟩,
     ⟨some 39, none, .ext (.t 31) 1⟩,
     ⟨some 7, none, .alloc [(.int .i64 0), (.int .i64 0), .nilS]⟩,
     ⟨none, none, .store 3 (.t 7) (.t 38)⟩,
     ⟨some 8, none, .mov (.t 39)⟩])
    (.seq
     (.reg [⟨some 9, none, .nilv 3⟩])
     (.seq
      (.seq
       (.reg [⟨some 10, none, .mov (.c (.int .i64 0))⟩])
       (.block 0
        (.loop [0, 2, 4, 7, 8, 9, 10]
         c7b0)))
      c7r0))))), none⟩
def k7 : List (List Nat) := [[0, 2, 4, 7, 8, 9, 10]]
def o7 : List Nat := [1000038, 1000039, 1000040, 1000041, 1000044, 1000049, 1000050, 1000056, 3000000]
/-- tracebook/column.Value -/
def c8 : AFn := ⟨2, 79, [.t 4],
 (.seq
  (.reg [⟨some 3, none, .box (.t 1)⟩,
   ⟨some 4, none, .mov (.c (.int .i64 0))⟩])
  (.seq
   (.reg [⟨some 6, none, .faddr 0 (.t 3)⟩,
    ⟨some 7, none, .load 1 false (.t 6)⟩,
    ⟨some 8, none, .bin .eql (.t 7) (.c (.int .i64 0))⟩,
    ⟨some 5, none, .mov (.t 8)⟩])
   (.seq
    (.block 0
     (.seq
      (.reg [⟨some 10, none, .mov (.t 5)⟩,
       ⟨some 11, none, .un .not (.t 10)⟩,
       ⟨some 12, none, .mov (.t 11)⟩,
       ⟨some 13, some (12, true), .faddr 0 (.t 3)⟩,
       ⟨some 14, some (12, true), .load 1 false (.t 13)⟩,
       ⟨some 15, some (12, true), .mov (.t 0)⟩,
       ⟨some 16, some (12, true), .bin .neq (.t 14) (.t 15)⟩,
       ⟨some 17, some (12, true), .mov (.t 16)⟩,
       ⟨some 18, some (17, false), .mov (.t 0)⟩,
       ⟨some 19, some (17, false), .call false 19 [(.t 18)]⟩,
       ⟨some 20, some (17, false), .un .not (.t 19)⟩,
       ⟨some 21, some (12, true), .pick (.t 17) (.c (.bool true)) (.t 20)⟩,
       ⟨some 22, none, .pick (.t 12) (.t 21) (.c (.bool false))⟩,
       ⟨some 9, none, .mov (.t 22)⟩])
      (.cond (.t 9)
       (.seq
        (.reg [⟨some 4, none, .mov (.c (.int .i64 14))⟩])
        .ret)
       (.seq
        (.seq
         (.reg [⟨some 24, none, .faddr 0 (.t 3)⟩,
          ⟨some 25, none, .load 1 false (.t 24)⟩,
          ⟨some 26, none, .bin .eql (.t 25) (.c (.int .i64 1))⟩,
          ⟨some 27, none, .mov (.t 26)⟩,
          ⟨some 28, some (27, true), .faddr 1 (.t 3)⟩,
          ⟨some 29, some (27, true), .load 1 false (.t 28)⟩,
          ⟨some 30, some (27, true), .bin .neq (.t 29) (.c (.int .i64 0))⟩,
          ⟨some 31, none, .pick (.t 27) (.t 30) (.c (.bool false))⟩,
          ⟨some 32, none, .mov (.t 31)⟩,
          ⟨some 33, some (32, true), .faddr 1 (.t 3)⟩,
          ⟨some 34, some (32, true), .load 1 false (.t 33)⟩,
          ⟨some 35, some (32, true), .bin .neq (.t 34) (.c (.int .i64 1))⟩,
          ⟨some 36, none, .pick (.t 32) (.t 35) (.c (.bool false))⟩,
          ⟨some 23, none, .mov (.t 36)⟩])
         (.cond (.t 23)
          .skip
          (.reg [⟨some 37, none, .faddr 0 (.t 3)⟩,
           ⟨some 38, none, .load 1 false (.t 37)⟩,
           ⟨some 39, none, .bin .eql (.t 38) (.c (.int .i64 2))⟩,
           ⟨some 40, none, .mov (.t 39)⟩,
           ⟨some 41, some (40, true), .faddr 1 (.t 3)⟩,
           ⟨some 42, some (40, true), .load 1 false (.t 41)⟩,
           ⟨some 43, some (40, true), .call false 20 [(.t 42)]⟩,
           ⟨some 44, some (40, true), .un .not (.t 43)⟩,
           ⟨some 45, none, .pick (.t 40) (.t 44) (.c (.bool false))⟩,
           ⟨some 23, none, .mov (.t 45)⟩])))
        (.cond (.t 23)
         (.seq
          (.reg [⟨some 4, none, .mov (.c (.int .i64 2))⟩])
          .ret)
         (.seq
          (.reg [⟨some 47, none, .faddr 0 (.t 3)⟩,
           ⟨some 48, none, .load 1 false (.t 47)⟩,
           ⟨some 49, none, .bin .eql (.t 48) (.c (.int .i64 3))⟩,
           ⟨some 50, none, .mov (.t 49)⟩,
           ⟨some 51, some (50, true), .faddr 2 (.t 3)⟩,
           ⟨some 52, some (50, true), .load 1 false (.t 51)⟩,
           ⟨some 53, some (50, true), .lenS (.t 52)⟩,
           ⟨some 54, some (50, true), .bin .gtr (.t 53) (.c (.int .i64 200))⟩,
           ⟨some 55, none, .pick (.t 50) (.t 54) (.c (.bool false))⟩,
           ⟨some 46, none, .mov (.t 55)⟩])
          (.cond (.t 46)
           (.seq
            (.reg [⟨some 4, none, .mov (.c (.int .i64 7))⟩])
            .ret)
           (.seq
            (.seq
             (.reg [⟨some 57, none, .mov (.t 5)⟩,
              ⟨some 58, none, .mov (.t 57)⟩,
              ⟨some 59, some (58, true), .faddr 1 (.t 3)⟩,
              ⟨some 60, some (58, true), .load 1 false (.t 59)⟩,
              ⟨some 61, some (58, true), .bin .neq (.t 60) (.c (.int .i64 0))⟩,
              ⟨some 62, none, .pick (.t 58) (.t 61) (.c (.bool false))⟩,
              ⟨some 56, none, .mov (.t 62)⟩])
             (.cond (.t 56)
              .skip
              (.seq
               (.reg [⟨some 63, none, .faddr 0 (.t 3)⟩,
                ⟨some 64, none, .load 1 false (.t 63)⟩,
                ⟨some 65, none, .bin .neq (.t 64) (.c (.int .i64 3))⟩,
                ⟨some 66, none, .mov (.t 65)⟩,
                ⟨some 67, some (66, true), .faddr 2 (.t 3)⟩,
                ⟨some 68, some (66, true), .load 1 false (.t 67)⟩,
                ⟨some 69, some (66, true), .bin .neq (.t 68) (.c (.str []))⟩,
                ⟨some 70, none, .pick (.t 66) (.t 69) (.c (.bool false))⟩,
                ⟨some 56, none, .mov (.t 70)⟩])
               (.cond (.t 56)
                .skip
                (.reg [⟨some 71, none, .faddr 0 (.t 3)⟩,
                 ⟨some 72, none, .load 1 false (.t 71)⟩,
                 ⟨some 73, none, .bin .eql (.t 72) (.c (.int .i64 3))⟩,
                 ⟨some 74, none, .mov (.t 73)⟩,
                 ⟨some 75, some (74, true), .faddr 1 (.t 3)⟩,
                 ⟨some 76, some (74, true), .load 1 false (.t 75)⟩,
                 ⟨some 77, some (74, true), .bin .neq (.t 76) (.c (.int .i64 0))⟩,
                 ⟨some 78, none, .pick (.t 74) (.t 77) (.c (.bool false))⟩,
                 ⟨some 56, none, .mov (.t 78)⟩])))))
            (.cond (.t 56)
             (.seq
              (.reg [⟨some 4, none, .mov (.c (.int .i64 1))⟩])
              .ret)
             .skip)))))))))
    (.seq
     (.reg [⟨some 4, none, .mov (.c (.int .i64 0))⟩])
     .ret)))), none⟩
def k8 : List (List Nat) := []
def o8 : List Nat := [1000038, 1000039, 1000040, 1000041, 1000044, 1000049, 1000050, 1000056, 3000000]
/-- tracebook/tracebookref33.Value -/
def c9 : AFn := ⟨2, 78, [.t 4],
 (.seq
  (.reg [⟨some 3, none, .box (.t 1)⟩,
   ⟨some 4, none, .mov (.c (.int .i64 0))⟩])
  (.seq
   (.seq
    (.reg [⟨some 5, none, .faddr 0 (.t 3)⟩,
     ⟨some 6, none, .load 1 false (.t 5)⟩,
     ⟨some 7, none, .bin .neq (.t 6) (.c (.int .i64 0))⟩,
     ⟨some 8, none, .mov (.t 7)⟩,
     ⟨some 9, some (8, true), .faddr 0 (.t 3)⟩,
     ⟨some 10, some (8, true), .load 1 false (.t 9)⟩,
     ⟨some 11, some (8, true), .mov (.t 0)⟩,
     ⟨some 12, some (8, true), .bin .neq (.t 10) (.t 11)⟩,
     ⟨some 13, some (8, true), .mov (.t 12)⟩,
     ⟨some 14, some (13, false), .mov (.t 0)⟩,
     ⟨some 15, some (13, false), .bin .lss (.t 14) (.c (.int .i64 1))⟩,
     ⟨some 16, some (8, true), .pick (.t 13) (.c (.bool true)) (.t 15)⟩,
     ⟨some 17, some (8, true), .mov (.t 16)⟩,
     ⟨some 18, some (17, false), .mov (.t 0)⟩,
     ⟨some 19, some (17, false), .bin .gtr (.t 18) (.c (.int .i64 3))⟩,
     ⟨some 20, some (8, true), .pick (.t 17) (.c (.bool true)) (.t 19)⟩,
     ⟨some 21, none, .pick (.t 8) (.t 20) (.c (.bool false))⟩])
    (.cond (.t 21)
     (.seq
      (.reg [⟨some 4, none, .mov (.c (.int .i64 14))⟩])
      .ret)
     .skip))
   (.seq
    (.seq
     (.reg [⟨some 22, none, .faddr 0 (.t 3)⟩,
      ⟨some 23, none, .load 1 false (.t 22)⟩,
      ⟨some 24, none, .bin .eql (.t 23) (.c (.int .i64 1))⟩,
      ⟨some 25, none, .mov (.t 24)⟩,
      ⟨some 26, some (25, true), .faddr 1 (.t 3)⟩,
      ⟨some 27, some (25, true), .load 1 false (.t 26)⟩,
      ⟨some 28, some (25, true), .bin .lss (.t 27) (.c (.int .i64 0))⟩,
      ⟨some 29, some (25, true), .mov (.t 28)⟩,
      ⟨some 30, some (29, false), .faddr 1 (.t 3)⟩,
      ⟨some 31, some (29, false), .load 1 false (.t 30)⟩,
      ⟨some 32, some (29, false), .bin .gtr (.t 31) (.c (.int .i64 1))⟩,
      ⟨some 33, some (25, true), .pick (.t 29) (.c (.bool true)) (.t 32)⟩,
      ⟨some 34, none, .pick (.t 25) (.t 33) (.c (.bool false))⟩,
      ⟨some 35, none, .mov (.t 34)⟩,
      ⟨some 36, some (35, false), .faddr 0 (.t 3)⟩,
      ⟨some 37, some (35, false), .load 1 false (.t 36)⟩,
      ⟨some 38, some (35, false), .bin .eql (.t 37) (.c (.int .i64 2))⟩,
      ⟨some 39, some (35, false), .mov (.t 38)⟩,
      ⟨some 40, some (39, true), .faddr 1 (.t 3)⟩,
      ⟨some 41, some (39, true), .load 1 false (.t 40)⟩,
      ⟨some 42, some (39, true), .call false 21 [(.t 41)]⟩,
      ⟨some 43, some (39, true), .un .not (.t 42)⟩,
      ⟨some 44, some (35, false), .pick (.t 39) (.t 43) (.c (.bool false))⟩,
      ⟨some 45, none, .pick (.t 35) (.c (.bool true)) (.t 44)⟩])
     (.cond (.t 45)
      (.seq
       (.reg [⟨some 4, none, .mov (.c (.int .i64 2))⟩])
       .ret)
      .skip))
    (.seq
     (.seq
      (.reg [⟨some 46, none, .faddr 0 (.t 3)⟩,
       ⟨some 47, none, .load 1 false (.t 46)⟩,
       ⟨some 48, none, .bin .eql (.t 47) (.c (.int .i64 3))⟩,
       ⟨some 49, none, .mov (.t 48)⟩,
       ⟨some 50, some (49, true), .faddr 2 (.t 3)⟩,
       ⟨some 51, some (49, true), .load 1 false (.t 50)⟩,
       ⟨some 52, some (49, true), .lenS (.t 51)⟩,
       ⟨some 53, some (49, true), .bin .gtr (.t 52) (.c (.int .i64 200))⟩,
       ⟨some 54, none, .pick (.t 49) (.t 53) (.c (.bool false))⟩])
      (.cond (.t 54)
       (.seq
        (.reg [⟨some 4, none, .mov (.c (.int .i64 7))⟩])
        .ret)
       .skip))
     (.seq
      (.seq
       (.reg [⟨some 55, none, .faddr 0 (.t 3)⟩,
        ⟨some 56, none, .load 1 false (.t 55)⟩,
        ⟨some 57, none, .bin .neq (.t 56) (.c (.int .i64 3))⟩,
        ⟨some 58, none, .mov (.t 57)⟩,
        ⟨some 59, some (58, true), .faddr 2 (.t 3)⟩,
        ⟨some 60, some (58, true), .load 1 false (.t 59)⟩,
        ⟨some 61, some (58, true), .bin .neq (.t 60) (.c (.str []))⟩,
        ⟨some 62, none, .pick (.t 58) (.t 61) (.c (.bool false))⟩,
        ⟨some 63, none, .mov (.t 62)⟩,
        ⟨some 64, some (63, false), .faddr 0 (.t 3)⟩,
        ⟨some 65, some (63, false), .load 1 false (.t 64)⟩,
        ⟨some 66, some (63, false), .bin .eql (.t 65) (.c (.int .i64 0))⟩,
        ⟨some 67, some (63, false), .mov (.t 66)⟩,
        ⟨some 68, some (67, false), .faddr 0 (.t 3)⟩,
        ⟨some 69, some (67, false), .load 1 false (.t 68)⟩,
        ⟨some 70, some (67, false), .bin .eql (.t 69) (.c (.int .i64 3))⟩,
        ⟨some 71, some (63, false), .pick (.t 67) (.c (.bool true)) (.t 70)⟩,
        ⟨some 72, some (63, false), .mov (.t 71)⟩,
        ⟨some 73, some (72, true), .faddr 1 (.t 3)⟩,
        ⟨some 74, some (72, true), .load 1 false (.t 73)⟩,
        ⟨some 75, some (72, true), .bin .neq (.t 74) (.c (.int .i64 0))⟩,
        ⟨some 76, some (63, false), .pick (.t 72) (.t 75) (.c (.bool false))⟩,
        ⟨some 77, none, .pick (.t 63) (.c (.bool true)) (.t 76)⟩])
       (.cond (.t 77)
        (.seq
         (.reg [⟨some 4, none, .mov (.c (.int .i64 1))⟩])
         .ret)
        .skip))
      (.seq
       (.reg [⟨some 4, none, .mov (.c (.int .i64 0))⟩])
       .ret)))))), none⟩
def k9 : List (List Nat) := []
def o9 : List Nat := [1000038, 1000039, 1000040, 1000041, 1000044, 1000049, 1000050, 1000056, 3000000]
/-- tracebook/tracebooklaw33.awake -/
def c10 : AFn := ⟨0, 109, [.t 0],
 (.seq
  (.reg [⟨some 0, none, .mov (.c (.bool false))⟩])
  (.seq
   (.reg [⟨some 12, none, .call false 22 [(.c (.int .i64 5))]⟩,
    ⟨some 13, none, .call false 22 [(.c (.int .i64 5))]⟩,
    ⟨some 14, none, .call false 22 [(.c (.int .i64 5))]⟩,
    ⟨some 15, none, .bslice false 3 [(.int .i64 0), (.int .i64 0), (.str [])] 3 [(0, (.t 12)), (1, (.t 13)), (2, (.t 14))]⟩,
    ⟨some 16, none, .call false 12 [(.c (.int .i64 2)), (.t 15)]⟩,
    ⟨some 11, none, .mov (.t 16)⟩,
    ⟨some 17, none, .ext (.t 11) 0⟩,
    ⟨some 18, none, .ext (.t 11) 1⟩,
    ⟨some 1, none, .alloc [(.int .i64 0), (.int .i64 0), .nilS]⟩,
    ⟨none, none, .store 3 (.t 1) (.t 17)⟩,
    ⟨some 2, none, .mov (.t 18)⟩])
   (.seq
    (.reg [⟨some 20, none, .call false 22 [(.c (.int .i64 1))]⟩,
     ⟨some 21, none, .call false 22 [(.c (.int .i64 2))]⟩,
     ⟨some 22, none, .call false 22 [(.c (.int .i64 3))]⟩,
     ⟨some 23, none, .bslice false 3 [(.int .i64 0), (.int .i64 0), (.str [])] 3 [(0, (.t 20)), (1, (.t 21)), (2, (.t 22))]⟩,
     ⟨some 24, none, .call false 12 [(.c (.int .i64 2)), (.t 23)]⟩,
     ⟨some 19, none, .mov (.t 24)⟩,
     ⟨some 25, none, .ext (.t 19) 0⟩,
     ⟨some 26, none, .ext (.t 19) 1⟩,
     ⟨some 3, none, .alloc [(.int .i64 0), (.int .i64 0), .nilS]⟩,
     ⟨none, none, .store 3 (.t 3) (.t 25)⟩,
     ⟨some 4, none, .mov (.t 26)⟩])
    (.seq
     (.reg [⟨some 28, none, .call false 12 [(.c (.int .i64 3)), (.c .nilS)]⟩,
      ⟨some 27, none, .mov (.t 28)⟩,
      ⟨some 29, none, .ext (.t 27) 0⟩,
      ⟨some 30, none, .ext (.t 27) 1⟩,
      ⟨some 5, none, .alloc [(.int .i64 0), (.int .i64 0), .nilS]⟩,
      ⟨none, none, .store 3 (.t 5) (.t 29)⟩,
      ⟨some 6, none, .mov (.t 30)⟩])
     (.seq
      (.reg [⟨some 32, none, .bslice false 1 [(.int .u8 0)] 4 [(0, (.c (.int .u8 1))), (1, (.c (.int .u8 6))), (2, (.c (.int .u8 2))), (3, (.c (.int .u8 10)))]⟩,
       ⟨some 33, none, .build [(.int .i64 0), (.int .i64 0), .nilS] [(0, 1, (.c (.int .i64 2))), (1, 1, (.c (.int .i64 3))), (2, 1, (.t 32))]⟩,
       ⟨some 34, none, .call false 14 [(.t 33)]⟩,
       ⟨some 31, none, .mov (.t 34)⟩,
       ⟨some 35, none, .ext (.t 31) 0⟩,
       ⟨some 36, none, .ext (.t 31) 1⟩,
       ⟨some 7, none, .mov (.t 35)⟩,
       ⟨some 8, none, .mov (.t 36)⟩])
      (.seq
       (.reg [⟨some 38, none, .load 3 true (.t 3)⟩,
        ⟨some 39, none, .call false 15 [(.t 38)]⟩,
        ⟨some 37, none, .mov (.t 39)⟩,
        ⟨some 40, none, .ext (.t 37) 0⟩,
        ⟨some 41, none, .ext (.t 37) 1⟩,
        ⟨some 9, none, .mov (.t 40)⟩,
        ⟨some 10, none, .mov (.t 41)⟩])
       (.seq
        (.reg [⟨some 42, none, .mov (.t 2)⟩,
         ⟨some 43, none, .bin .eql (.t 42) (.c (.int .i64 0))⟩,
         ⟨some 44, none, .mov (.t 43)⟩,
         ⟨some 45, some (44, true), .faddr 1 (.t 1)⟩,
         ⟨some 46, some (44, true), .load 1 false (.t 45)⟩,
         ⟨some 47, some (44, true), .bin .eql (.t 46) (.c (.int .i64 3))⟩,
         ⟨some 48, none, .pick (.t 44) (.t 47) (.c (.bool false))⟩,
         ⟨some 49, none, .mov (.t 48)⟩,
         ⟨some 50, some (49, true), .faddr 2 (.t 1)⟩,
         ⟨some 51, some (49, true), .load 1 false (.t 50)⟩,
         ⟨some 52, some (49, true), .conv .toStr (.t 51)⟩,
         ⟨some 53, some (49, true), .bin .eql (.t 52) (.c (.str [1, 6, 2, 10]))⟩,
         ⟨some 54, none, .pick (.t 49) (.t 53) (.c (.bool false))⟩,
         ⟨some 55, none, .mov (.t 54)⟩,
         ⟨some 56, some (55, true), .mov (.t 4)⟩,
         ⟨some 57, some (55, true), .bin .eql (.t 56) (.c (.int .i64 0))⟩,
         ⟨some 58, none, .pick (.t 55) (.t 57) (.c (.bool false))⟩,
         ⟨some 59, none, .mov (.t 58)⟩,
         ⟨some 60, some (59, true), .faddr 2 (.t 3)⟩,
         ⟨some 61, some (59, true), .load 1 false (.t 60)⟩,
         ⟨some 62, some (59, true), .conv .toStr (.t 61)⟩,
         ⟨some 63, some (59, true), .bin .eql (.t 62) (.c (.str [2, 2, 2, 2]))⟩,
         ⟨some 64, none, .pick (.t 59) (.t 63) (.c (.bool false))⟩,
         ⟨some 65, none, .mov (.t 64)⟩,
         ⟨some 66, some (65, true), .mov (.t 6)⟩,
         ⟨some 67, some (65, true), .bin .eql (.t 66) (.c (.int .i64 0))⟩,
         ⟨some 68, none, .pick (.t 65) (.t 67) (.c (.bool false))⟩,
         ⟨some 69, none, .mov (.t 68)⟩,
         ⟨some 70, some (69, true), .faddr 2 (.t 5)⟩,
         ⟨some 71, some (69, true), .load 1 false (.t 70)⟩,
         ⟨some 72, some (69, true), .conv .toStr (.t 71)⟩,
         ⟨some 73, some (69, true), .bin .eql (.t 72) (.c (.str [0]))⟩,
         ⟨some 74, none, .pick (.t 69) (.t 73) (.c (.bool false))⟩,
         ⟨some 75, none, .mov (.t 74)⟩,
         ⟨some 76, some (75, true), .mov (.t 8)⟩,
         ⟨some 77, some (75, true), .bin .eql (.t 76) (.c (.int .i64 0))⟩,
         ⟨some 78, none, .pick (.t 75) (.t 77) (.c (.bool false))⟩,
         ⟨some 79, none, .mov (.t 78)⟩,
         ⟨some 80, some (79, true), .mov (.t 7)⟩,
         ⟨some 81, some (79, true), .len (.t 80)⟩,
         ⟨some 82, some (79, true), .bin .eql (.t 81) (.c (.int .i64 3))⟩,
         ⟨some 83, none, .pick (.t 79) (.t 82) (.c (.bool false))⟩,
         ⟨some 84, none, .mov (.t 83)⟩,
         ⟨some 85, some (84, true), .mov (.t 7)⟩,
         ⟨some 86, some (84, true), .iaddr (.slice 3) (.t 85) (.c (.int .i64 2))⟩,
         ⟨some 87, some (84, true), .load 3 true (.t 86)⟩,
         ⟨some 88, some (84, true), .call false 22 [(.c (.int .i64 5))]⟩,
         ⟨some 89, some (84, true), .beqA false [.i, .i, .s] (.t 87) (.t 88)⟩,
         ⟨some 90, none, .pick (.t 84) (.t 89) (.c (.bool false))⟩,
         ⟨some 91, none, .mov (.t 90)⟩,
         ⟨some 92, some (91, true), .mov (.t 9)⟩,
         ⟨some 93, some (91, true), .bin .eql (.t 92) (.c (.int .i64 2))⟩,
         ⟨some 94, none, .pick (.t 91) (.t 93) (.c (.bool false))⟩,
         ⟨some 95, none, .mov (.t 94)⟩,
         ⟨some 96, some (95, true), .mov (.t 10)⟩,
         ⟨some 97, some (95, true), .bin .eql (.t 96) (.c (.int .i64 0))⟩,
         ⟨some 98, none, .pick (.t 95) (.t 97) (.c (.bool false))⟩,
         ⟨some 99, none, .mov (.t 98)⟩,
         ⟨some 100, some (99, true), .build [(.int .i64 0), (.int .i64 0), (.str [])] []⟩,
         ⟨some 101, some (99, true), .call false 8 [(.c (.int .i64 2)), (.t 100)]⟩,
         ⟨some 102, some (99, true), .bin .eql (.t 101) (.c (.int .i64 0))⟩,
         ⟨some 103, none, .pick (.t 99) (.t 102) (.c (.bool false))⟩,
         ⟨some 104, none, .mov (.t 103)⟩,
         ⟨some 105, some (104, true), .call false 22 [(.c (.int .i64 1))]⟩,
         ⟨some 106, some (104, true), .call false 8 [(.c (.int .i64 1)), (.t 105)]⟩,
         ⟨some 107, some (104, true), .bin .eql (.t 106) (.c (.int .i64 14))⟩,
         ⟨some 108, none, .pick (.t 104) (.t 107) (.c (.bool false))⟩,
         ⟨some 0, none, .mov (.t 108)⟩])
        .ret))))))), none⟩
def k10 : List (List Nat) := []
def o10 : List Nat := [1000038, 1000039, 1000040, 1000041, 1000044, 1000049, 1000050, 1000056, 3000000]
def c11b0 : AC := (.seq
        (.seq
         (.reg [⟨some 7, none, .mov (.t 3)⟩,
          ⟨some 8, none, .mov (.t 0)⟩,
          ⟨some 9, none, .len (.t 8)⟩,
          ⟨some 10, none, .bin .lss (.t 7) (.t 9)⟩])
         (.cond (.t 10)
          .skip
          (.exit 0)))
        (.seq
         (.block 1
          (.seq
           (.reg [⟨some 13, none, .mov (.t 0)⟩,
            ⟨some 14, none, .mov (.t 3)⟩,
            ⟨some 15, none, .iaddr (.slice 3) (.t 13) (.t 14)⟩,
            ⟨some 16, none, .faddr 2 (.t 15)⟩,
            ⟨some 17, none, .load 1 false (.t 16)⟩,
            ⟨some 18, none, .lenS (.t 17)⟩,
            ⟨some 19, none, .bin .gtr (.t 18) (.c (.int .i64 300))⟩])
           (.cond (.t 19)
            (.seq
             (.reg [⟨some 2, none, .mov (.c (.bool false))⟩])
             .ret)
            .skip)))
         (.reg [⟨some 11, none, .mov (.t 3)⟩,
          ⟨some 12, none, .bin .add (.t 11) (.c (.int .i64 1))⟩,
          ⟨some 3, none, .mov (.t 12)⟩])))
/-- tracebook/tracebooklaw33.few -/
def c11 : AFn := ⟨1, 20, [.t 2],
 (.seq
  (.reg [⟨some 2, none, .mov (.c (.bool false))⟩])
  (.seq
   (.seq
    (.reg [⟨some 4, none, .mov (.t 0)⟩,
     ⟨some 5, none, .len (.t 4)⟩,
     ⟨some 6, none, .bin .gtr (.t 5) (.c (.int .i64 60))⟩])
    (.cond (.t 6)
     (.seq
      (.reg [⟨some 2, none, .mov (.c (.bool false))⟩])
      .ret)
     .skip))
   (.seq
    (.seq
     (.reg [⟨some 3, none, .mov (.c (.int .i64 0))⟩])
     (.block 0
      (.loop [0, 3]
       c11b0)))
    (.seq
     (.reg [⟨some 2, none, .mov (.c (.bool true))⟩])
     .ret)))), none⟩
def k11 : List (List Nat) := [[0, 3]]
def o11 : List Nat := [1000038, 1000039, 1000040, 1000041, 1000044, 1000049, 1000050, 1000056, 3000000]
def c12b0 : AC := (.seq
         (.reg [⟨some 20, none, .bin .lss (.t 19) (.t 18)⟩])
         (.seq
          (.cond (.t 20)
           .skip
           (.exit 0))
          (.seq
           (.block 1
            (.seq
             (.reg [⟨some 21, none, .iaddr (.slice 3) (.t 17) (.t 19)⟩,
              ⟨some 22, none, .load 3 true (.t 21)⟩,
              ⟨some 7, none, .alloc [(.int .i64 0), (.int .i64 0), (.str [])]⟩,
              ⟨none, none, .store 3 (.t 7) (.t 22)⟩])
             (.seq
              (.reg [⟨some 23, none, .mov (.t 0)⟩,
               ⟨some 24, none, .load 3 true (.t 7)⟩,
               ⟨some 25, none, .call false 8 [(.t 23), (.t 24)]⟩,
               ⟨some 8, none, .mov (.t 25)⟩])
              (.seq
               (.reg [⟨some 26, none, .mov (.t 8)⟩,
                ⟨some 27, none, .bin .neq (.t 26) (.c (.int .i64 0))⟩])
               (.cond (.t 27)
                (.seq
                 (.reg [⟨some 28, none, .build [(.int .i64 0), (.int .i64 0), .nilS] []⟩,
                  ⟨some 29, none, .mov (.t 8)⟩,
                  ⟨none, none, .store 3 (.t 4) (.t 28)⟩,
                  ⟨some 5, none, .mov (.t 29)⟩])
                 .ret)
                .skip)))))
           (.reg [⟨some 30, none, .bin .add (.t 19) (.c (.int .i64 1))⟩,
            ⟨some 19, none, .mov (.t 30)⟩]))))
def c12r0 : AC := (.seq
      (.reg [⟨some 31, none, .mov (.t 0)⟩,
       ⟨some 32, none, .mov (.t 1)⟩,
       ⟨some 33, none, .len (.t 32)⟩,
       ⟨some 34, none, .mov (.t 0)⟩,
       ⟨some 35, none, .mov (.t 1)⟩,
       ⟨some 36, none, .call true 23 [(.t 34), (.t 35)]⟩,
       ⟨some 37, none, .build [(.int .i64 0), (.int .i64 0), .nilS] [(0, 1, (.t 31)), (1, 1, (.t 33)), (2, 1, (.t 36))]⟩,
       ⟨none, none, .store 3 (.t 4) (.t 37)⟩,
       ⟨some 5, none, .mov (.c (.int .i64 0))⟩])
      .ret)
/-- tracebook/column.Encode -/
def c12 : AFn := ⟨2, 38, [.c 4 3 true, .t 5],
 (.seq
  (.reg [⟨some 4, none, .alloc [(.int .i64 0), (.int .i64 0), .nilS]⟩,
   ⟨some 5, none, .mov (.c (.int .i64 0))⟩])
  (.seq
   (.seq
    (.reg [⟨some 9, none, .mov (.t 0)⟩,
     ⟨some 10, none, .call false 19 [(.t 9)]⟩,
     ⟨some 11, none, .un .not (.t 10)⟩])
    (.cond (.t 11)
     (.seq
      (.reg [⟨some 12, none, .build [(.int .i64 0), (.int .i64 0), .nilS] []⟩,
       ⟨none, none, .store 3 (.t 4) (.t 12)⟩,
       ⟨some 5, none, .mov (.c (.int .i64 1))⟩])
      .ret)
     .skip))
   (.seq
    (.seq
     (.reg [⟨some 13, none, .mov (.t 1)⟩,
      ⟨some 14, none, .len (.t 13)⟩,
      ⟨some 15, none, .bin .gtr (.t 14) (.c (.int .i64 20000))⟩])
     (.cond (.t 15)
      (.seq
       (.reg [⟨some 16, none, .build [(.int .i64 0), (.int .i64 0), .nilS] []⟩,
        ⟨none, none, .store 3 (.t 4) (.t 16)⟩,
        ⟨some 5, none, .mov (.c (.int .i64 7))⟩])
       .ret)
      .skip))
    (.seq
     (.seq
      (.reg [⟨some 17, none, .mov (.t 1)⟩,
       ⟨some 18, none, .len (.t 17)⟩,
       ⟨some 19, none, .mov (.c (.int .i64 0))⟩])
      (.block 0
       (.loop [0, 1, 4, 17, 18, 19]
        c12b0)))
     c12r0)))), none⟩
def k12 : List (List Nat) := [[0, 1, 4, 17, 18, 19]]
def o12 : List Nat := [36, 1000038, 1000039, 1000040, 1000041, 1000044, 1000049, 1000050, 1000056, 3000000]
def c13b0 : AC := (.seq
         (.seq
          (.reg [⟨some 23, none, .mov (.t 6)⟩,
           ⟨some 24, none, .mov (.t 1)⟩,
           ⟨some 25, none, .len (.t 24)⟩,
           ⟨some 26, none, .bin .lss (.t 23) (.t 25)⟩])
          (.cond (.t 26)
           .skip
           (.exit 0)))
         (.seq
          (.block 1
           (.seq
            (.reg [⟨some 29, none, .mov (.t 0)⟩,
             ⟨some 30, none, .mov (.t 1)⟩,
             ⟨some 31, none, .mov (.t 6)⟩,
             ⟨some 32, none, .iaddr (.slice 3) (.t 30) (.t 31)⟩,
             ⟨some 33, none, .load 3 true (.t 32)⟩,
             ⟨some 34, none, .call false 9 [(.t 29), (.t 33)]⟩,
             ⟨some 7, none, .mov (.t 34)⟩])
            (.seq
             (.reg [⟨some 35, none, .mov (.t 7)⟩,
              ⟨some 36, none, .bin .neq (.t 35) (.c (.int .i64 0))⟩])
             (.cond (.t 36)
              (.seq
               (.reg [⟨some 37, none, .build [(.int .i64 0), (.int .i64 0), .nilS] []⟩,
                ⟨some 38, none, .mov (.t 7)⟩,
                ⟨none, none, .store 3 (.t 4) (.t 37)⟩,
                ⟨some 5, none, .mov (.t 38)⟩])
               .ret)
              .skip))))
          (.reg [⟨some 27, none, .mov (.t 6)⟩,
           ⟨some 28, none, .bin .add (.t 27) (.c (.int .i64 1))⟩,
           ⟨some 6, none, .mov (.t 28)⟩])))
def c13r0 : AC := (.seq
      (.reg [⟨some 39, none, .bslice true 1 [(.int .u8 0)] 1 [(0, (.c (.int .u8 0)))]⟩,
       ⟨some 40, none, .mov (.t 1)⟩,
       ⟨some 41, none, .call false 24 [(.t 40)]⟩,
       ⟨some 42, none, .append 1 1 (.t 39) (.t 41)⟩,
       ⟨some 8, none, .mov (.t 42)⟩])
      (.seq
       (.reg [⟨some 43, none, .bslice true 1 [(.int .u8 0)] 1 [(0, (.c (.int .u8 1)))]⟩,
        ⟨some 44, none, .mov (.t 1)⟩,
        ⟨some 45, none, .call false 25 [(.t 44)]⟩,
        ⟨some 46, none, .append 1 1 (.t 43) (.t 45)⟩,
        ⟨some 9, none, .mov (.t 46)⟩])
       (.seq
        (.seq
         (.reg [⟨some 47, none, .mov (.t 9)⟩,
          ⟨some 48, none, .len (.t 47)⟩,
          ⟨some 49, none, .mov (.t 8)⟩,
          ⟨some 50, none, .len (.t 49)⟩,
          ⟨some 51, none, .bin .lss (.t 48) (.t 50)⟩])
         (.cond (.t 51)
          (.reg [⟨some 52, none, .mov (.t 9)⟩,
           ⟨some 8, none, .mov (.t 52)⟩])
          .skip))
        (.seq
         (.reg [⟨some 54, none, .mov (.t 0)⟩,
          ⟨some 55, none, .mov (.t 1)⟩,
          ⟨some 56, none, .call false 26 [(.t 54), (.t 55)]⟩,
          ⟨some 53, none, .mov (.t 56)⟩,
          ⟨some 57, none, .ext (.t 53) 0⟩,
          ⟨some 58, none, .ext (.t 53) 1⟩,
          ⟨some 10, none, .mov (.t 57)⟩,
          ⟨some 11, none, .mov (.t 58)⟩])
         (.seq
          (.seq
           (.reg [⟨some 59, none, .mov (.t 11)⟩,
            ⟨some 60, none, .mov (.t 59)⟩,
            ⟨some 61, some (60, true), .mov (.t 10)⟩,
            ⟨some 62, some (60, true), .len (.t 61)⟩,
            ⟨some 63, some (60, true), .bin .add (.t 62) (.c (.int .i64 1))⟩,
            ⟨some 64, some (60, true), .mov (.t 8)⟩,
            ⟨some 65, some (60, true), .len (.t 64)⟩,
            ⟨some 66, some (60, true), .bin .lss (.t 63) (.t 65)⟩,
            ⟨some 67, none, .pick (.t 60) (.t 66) (.c (.bool false))⟩])
           (.cond (.t 67)
            (.reg [⟨some 68, none, .bslice true 1 [(.int .u8 0)] 1 [(0, (.c (.int .u8 2)))]⟩,
             ⟨some 69, none, .mov (.t 10)⟩,
             ⟨some 70, none, .append 1 1 (.t 68) (.t 69)⟩,
             ⟨some 8, none, .mov (.t 70)⟩])
            .skip))
          (.seq
           (.reg [⟨some 71, none, .bslice true 1 [(.int .u8 0)] 1 [(0, (.c (.int .u8 3)))]⟩,
            ⟨some 72, none, .mov (.t 1)⟩,
            ⟨some 73, none, .call false 27 [(.t 72)]⟩,
            ⟨some 74, none, .append 1 1 (.t 71) (.t 73)⟩,
            ⟨some 9, none, .mov (.t 74)⟩])
           (.seq
            (.seq
             (.reg [⟨some 75, none, .mov (.t 9)⟩,
              ⟨some 76, none, .len (.t 75)⟩,
              ⟨some 77, none, .mov (.t 8)⟩,
              ⟨some 78, none, .len (.t 77)⟩,
              ⟨some 79, none, .bin .lss (.t 76) (.t 78)⟩])
             (.cond (.t 79)
              (.reg [⟨some 80, none, .mov (.t 9)⟩,
               ⟨some 8, none, .mov (.t 80)⟩])
              .skip))
            (.seq
             (.reg [⟨some 81, none, .mov (.t 0)⟩,
              ⟨some 82, none, .mov (.t 1)⟩,
              ⟨some 83, none, .len (.t 82)⟩,
              ⟨some 84, none, .mov (.t 8)⟩,
              ⟨some 85, none, .build [(.int .i64 0), (.int .i64 0), .nilS] [(0, 1, (.t 81)), (1, 1, (.t 83)), (2, 1, (.t 84))]⟩,
              ⟨none, none, .store 3 (.t 4) (.t 85)⟩,
              ⟨some 5, none, .mov (.c (.int .i64 0))⟩])
             .ret))))))))
/-- tracebook/tracebookref33.Encode -/
def c13 : AFn := ⟨2, 86, [.c 4 3 true, .t 5],
 (.seq
  (.reg [⟨some 4, none, .alloc [(.int .i64 0), (.int .i64 0), .nilS]⟩,
   ⟨some 5, none, .mov (.c (.int .i64 0))⟩])
  (.seq
   (.seq
    (.reg [⟨some 12, none, .mov (.t 0)⟩,
     ⟨some 13, none, .bin .lss (.t 12) (.c (.int .i64 1))⟩,
     ⟨some 14, none, .mov (.t 13)⟩,
     ⟨some 15, some (14, false), .mov (.t 0)⟩,
     ⟨some 16, some (14, false), .bin .gtr (.t 15) (.c (.int .i64 3))⟩,
     ⟨some 17, none, .pick (.t 14) (.c (.bool true)) (.t 16)⟩])
    (.cond (.t 17)
     (.seq
      (.reg [⟨some 18, none, .build [(.int .i64 0), (.int .i64 0), .nilS] []⟩,
       ⟨none, none, .store 3 (.t 4) (.t 18)⟩,
       ⟨some 5, none, .mov (.c (.int .i64 1))⟩])
      .ret)
     .skip))
   (.seq
    (.seq
     (.reg [⟨some 19, none, .mov (.t 1)⟩,
      ⟨some 20, none, .len (.t 19)⟩,
      ⟨some 21, none, .bin .gtr (.t 20) (.c (.int .i64 20000))⟩])
     (.cond (.t 21)
      (.seq
       (.reg [⟨some 22, none, .build [(.int .i64 0), (.int .i64 0), .nilS] []⟩,
        ⟨none, none, .store 3 (.t 4) (.t 22)⟩,
        ⟨some 5, none, .mov (.c (.int .i64 7))⟩])
       .ret)
      .skip))
    (.seq
     (.seq
      (.reg [⟨some 6, none, .mov (.c (.int .i64 0))⟩])
      (.block 0
       (.loop [0, 1, 4, 6]
        c13b0)))
     c13r0)))), none⟩
def k13 : List (List Nat) := [[0, 1, 4, 6]]
def o13 : List Nat := [1000038, 1000039, 1000040, 1000041, 1000044, 1000049, 1000050, 1000056, 3000000, 39, 43, 68, 71]
/-- tracebook/column.Decode -/
def c14 : AFn := ⟨1, 47, [.t 2, .t 3],
 (.seq
  (.reg [⟨some 1, none, .box (.t 0)⟩,
   ⟨some 2, none, .nilv 3⟩,
   ⟨some 3, none, .mov (.c (.int .i64 0))⟩])
  (.seq
   (.seq
    (.reg [⟨some 8, none, .faddr 0 (.t 1)⟩,
     ⟨some 9, none, .load 1 false (.t 8)⟩,
     ⟨some 10, none, .call false 19 [(.t 9)]⟩,
     ⟨some 11, none, .un .not (.t 10)⟩])
    (.cond (.t 11)
     (.seq
      (.reg [⟨some 2, none, .nilv 3⟩,
       ⟨some 3, none, .mov (.c (.int .i64 1))⟩])
      .ret)
     .skip))
   (.seq
    (.seq
     (.reg [⟨some 12, none, .faddr 1 (.t 1)⟩,
      ⟨some 13, none, .load 1 false (.t 12)⟩,
      ⟨some 14, none, .bin .gtr (.t 13) (.c (.int .i64 20000))⟩])
     (.cond (.t 14)
      (.seq
       (.reg [⟨some 2, none, .nilv 3⟩,
        ⟨some 3, none, .mov (.c (.int .i64 7))⟩])
       .ret)
      .skip))
    (.seq
     (.reg [⟨some 16, none, .load 3 true (.t 1)⟩,
      ⟨some 17, none, .call true 28 [(.t 16)]⟩,
      ⟨some 15, none, .mov (.t 17)⟩,
      ⟨some 18, none, .ext (.t 15) 0⟩,
      ⟨some 19, none, .ext (.t 15) 1⟩,
      ⟨some 4, none, .mov (.t 18)⟩,
      ⟨some 5, none, .mov (.t 19)⟩])
     (.seq
      (.seq
       (.reg [⟨some 20, none, .mov (.t 5)⟩,
        ⟨some 21, none, .un .not (.t 20)⟩])
       (.cond (.t 21)
        (.seq
         (.reg [⟨some 2, none, .nilv 3⟩,
          ⟨some 3, none, .mov (.c (.int .i64 10))⟩])
         .ret)
        .skip))
      (.seq
       (.reg [⟨some 23, none, .faddr 0 (.t 1)⟩,
        ⟨some 24, none, .load 1 false (.t 23)⟩,
        ⟨some 25, none, .mov (.t 4)⟩,
        ⟨some 26, none, .call false 12 [(.t 24), (.t 25)]⟩,
        ⟨some 22, none, .mov (.t 26)⟩,
        ⟨some 27, none, .ext (.t 22) 0⟩,
        ⟨some 28, none, .ext (.t 22) 1⟩,
        ⟨some 6, none, .alloc [(.int .i64 0), (.int .i64 0), .nilS]⟩,
        ⟨none, none, .store 3 (.t 6) (.t 27)⟩,
        ⟨some 7, none, .mov (.t 28)⟩])
       (.seq
        (.seq
         (.reg [⟨some 29, none, .mov (.t 7)⟩,
          ⟨some 30, none, .bin .neq (.t 29) (.c (.int .i64 0))⟩,
          ⟨some 31, none, .mov (.t 30)⟩,
          ⟨some 32, some (31, false), .faddr 1 (.t 6)⟩,
          ⟨some 33, some (31, false), .load 1 false (.t 32)⟩,
          ⟨some 34, some (31, false), .faddr 1 (.t 1)⟩,
          ⟨some 35, some (31, false), .load 1 false (.t 34)⟩,
          ⟨some 36, some (31, false), .bin .neq (.t 33) (.t 35)⟩,
          ⟨some 37, none, .pick (.t 31) (.c (.bool true)) (.t 36)⟩,
          ⟨some 38, none, .mov (.t 37)⟩,
          ⟨some 39, some (38, false), .faddr 2 (.t 6)⟩,
          ⟨some 40, some (38, false), .load 1 false (.t 39)⟩,
          ⟨some 41, some (38, false), .faddr 2 (.t 1)⟩,
          ⟨some 42, some (38, false), .load 1 false (.t 41)⟩,
          ⟨some 43, some (38, false), .call false 29 [(.t 40), (.t 42)]⟩,
          ⟨some 44, some (38, false), .un .not (.t 43)⟩,
          ⟨some 45, none, .pick (.t 38) (.c (.bool true)) (.t 44)⟩])
         (.cond (.t 45)
          (.seq
           (.reg [⟨some 2, none, .nilv 3⟩,
            ⟨some 3, none, .mov (.c (.int .i64 10))⟩])
           .ret)
          .skip))
        (.seq
         (.reg [⟨some 46, none, .mov (.t 4)⟩,
          ⟨some 2, none, .mov (.t 46)⟩,
          ⟨some 3, none, .mov (.c (.int .i64 0))⟩])
         .ret)))))))), none⟩
def k14 : List (List Nat) := []
def o14 : List Nat := [17, 1000038, 1000039, 1000040, 1000041, 1000044, 1000049, 1000050, 1000056, 3000000]
/-- tracebook/column.Coding -/
def c15 : AFn := ⟨1, 19, [.t 2, .t 3],
 (.seq
  (.reg [⟨some 1, none, .box (.t 0)⟩,
   ⟨some 2, none, .mov (.c (.int .i64 0))⟩,
   ⟨some 3, none, .mov (.c (.int .i64 0))⟩])
  (.seq
   (.seq
    (.reg [⟨some 7, none, .load 3 true (.t 1)⟩,
     ⟨some 8, none, .call false 14 [(.t 7)]⟩,
     ⟨some 6, none, .mov (.t 8)⟩,
     ⟨some 9, none, .ext (.t 6) 0⟩,
     ⟨some 10, none, .ext (.t 6) 1⟩,
     ⟨some 4, none, .mov (.t 9)⟩,
     ⟨some 5, none, .mov (.t 10)⟩])
    (.seq
     (.reg [⟨some 11, none, .mov (.t 5)⟩,
      ⟨some 12, none, .bin .neq (.t 11) (.c (.int .i64 0))⟩])
     (.cond (.t 12)
      (.seq
       (.reg [⟨some 13, none, .mov (.t 5)⟩,
        ⟨some 2, none, .mov (.c (.int .i64 0))⟩,
        ⟨some 3, none, .mov (.t 13)⟩])
       .ret)
      .skip)))
   (.seq
    (.reg [⟨some 14, none, .faddr 2 (.t 1)⟩,
     ⟨some 15, none, .load 1 false (.t 14)⟩,
     ⟨some 16, none, .iaddr (.slice 1) (.t 15) (.c (.int .i64 0))⟩,
     ⟨some 17, none, .load 1 false (.t 16)⟩,
     ⟨some 18, none, .conv (.int .i64) (.t 17)⟩,
     ⟨some 2, none, .mov (.t 18)⟩,
     ⟨some 3, none, .mov (.c (.int .i64 0))⟩])
    .ret))), none⟩
def k15 : List (List Nat) := []
def o15 : List Nat := [1000038, 1000039, 1000040, 1000041, 1000044, 1000049, 1000050, 1000056, 3000000]
def c16b0 : AC := (.seq
        (.seq
         (.reg [⟨some 11, none, .mov (.t 5)⟩,
          ⟨some 12, none, .mov (.t 0)⟩,
          ⟨some 13, none, .len (.t 12)⟩,
          ⟨some 14, none, .bin .lss (.t 11) (.t 13)⟩])
         (.cond (.t 14)
          .skip
          (.exit 0)))
        (.seq
         (.block 1
          (.seq
           (.reg [⟨some 17, none, .mov (.t 0)⟩,
            ⟨some 18, none, .mov (.t 5)⟩,
            ⟨some 19, none, .iaddr (.slice 3) (.t 17) (.t 18)⟩,
            ⟨some 20, none, .load 3 true (.t 19)⟩,
            ⟨some 21, none, .mov (.t 1)⟩,
            ⟨some 22, none, .mov (.t 5)⟩,
            ⟨some 23, none, .iaddr (.slice 3) (.t 21) (.t 22)⟩,
            ⟨some 24, none, .load 3 true (.t 23)⟩,
            ⟨some 25, none, .beqA true [.i, .i, .s] (.t 20) (.t 24)⟩])
           (.cond (.t 25)
            (.seq
             (.reg [⟨some 4, none, .mov (.c (.bool false))⟩])
             .ret)
            .skip)))
         (.reg [⟨some 15, none, .mov (.t 5)⟩,
          ⟨some 16, none, .bin .add (.t 15) (.c (.int .i64 1))⟩,
          ⟨some 5, none, .mov (.t 16)⟩])))
/-- tracebook/tracebookref33.Same -/
def c16 : AFn := ⟨2, 26, [.t 4],
 (.seq
  (.reg [⟨some 4, none, .mov (.c (.bool false))⟩])
  (.seq
   (.seq
    (.reg [⟨some 6, none, .mov (.t 0)⟩,
     ⟨some 7, none, .len (.t 6)⟩,
     ⟨some 8, none, .mov (.t 1)⟩,
     ⟨some 9, none, .len (.t 8)⟩,
     ⟨some 10, none, .bin .neq (.t 7) (.t 9)⟩])
    (.cond (.t 10)
     (.seq
      (.reg [⟨some 4, none, .mov (.c (.bool false))⟩])
      .ret)
     .skip))
   (.seq
    (.seq
     (.reg [⟨some 5, none, .mov (.c (.int .i64 0))⟩])
     (.block 0
      (.loop [0, 1, 5]
       c16b0)))
    (.seq
     (.reg [⟨some 4, none, .mov (.c (.bool true))⟩])
     .ret)))), none⟩
def k16 : List (List Nat) := [[0, 1, 5]]
def o16 : List Nat := [1000038, 1000039, 1000040, 1000041, 1000044, 1000049, 1000050, 1000056, 3000000]
/-- tracebook/tracebookref33.Decode -/
def c17 : AFn := ⟨1, 46, [.t 2, .t 3],
 (.seq
  (.reg [⟨some 1, none, .box (.t 0)⟩,
   ⟨some 2, none, .nilv 3⟩,
   ⟨some 3, none, .mov (.c (.int .i64 0))⟩])
  (.seq
   (.seq
    (.reg [⟨some 7, none, .faddr 0 (.t 1)⟩,
     ⟨some 8, none, .load 1 false (.t 7)⟩,
     ⟨some 9, none, .bin .lss (.t 8) (.c (.int .i64 1))⟩,
     ⟨some 10, none, .mov (.t 9)⟩,
     ⟨some 11, some (10, false), .faddr 0 (.t 1)⟩,
     ⟨some 12, some (10, false), .load 1 false (.t 11)⟩,
     ⟨some 13, some (10, false), .bin .gtr (.t 12) (.c (.int .i64 3))⟩,
     ⟨some 14, none, .pick (.t 10) (.c (.bool true)) (.t 13)⟩])
    (.cond (.t 14)
     (.seq
      (.reg [⟨some 2, none, .nilv 3⟩,
       ⟨some 3, none, .mov (.c (.int .i64 1))⟩])
      .ret)
     .skip))
   (.seq
    (.seq
     (.reg [⟨some 15, none, .faddr 1 (.t 1)⟩,
      ⟨some 16, none, .load 1 false (.t 15)⟩,
      ⟨some 17, none, .bin .gtr (.t 16) (.c (.int .i64 20000))⟩])
     (.cond (.t 17)
      (.seq
       (.reg [⟨some 2, none, .nilv 3⟩,
        ⟨some 3, none, .mov (.c (.int .i64 7))⟩])
       .ret)
      .skip))
    (.seq
     (.reg [⟨some 18, none, .load 3 true (.t 1)⟩,
      ⟨some 19, none, .call false 30 [(.t 18)]⟩,
      ⟨some 4, none, .mov (.t 19)⟩])
     (.seq
      (.reg [⟨some 21, none, .faddr 0 (.t 1)⟩,
       ⟨some 22, none, .load 1 false (.t 21)⟩,
       ⟨some 23, none, .mov (.t 4)⟩,
       ⟨some 24, none, .call false 13 [(.t 22), (.t 23)]⟩,
       ⟨some 20, none, .mov (.t 24)⟩,
       ⟨some 25, none, .ext (.t 20) 0⟩,
       ⟨some 26, none, .ext (.t 20) 1⟩,
       ⟨some 5, none, .alloc [(.int .i64 0), (.int .i64 0), .nilS]⟩,
       ⟨none, none, .store 3 (.t 5) (.t 25)⟩,
       ⟨some 6, none, .mov (.t 26)⟩])
      (.seq
       (.seq
        (.reg [⟨some 27, none, .mov (.t 6)⟩,
         ⟨some 28, none, .bin .neq (.t 27) (.c (.int .i64 0))⟩,
         ⟨some 29, none, .mov (.t 28)⟩,
         ⟨some 30, some (29, false), .faddr 1 (.t 5)⟩,
         ⟨some 31, some (29, false), .load 1 false (.t 30)⟩,
         ⟨some 32, some (29, false), .faddr 1 (.t 1)⟩,
         ⟨some 33, some (29, false), .load 1 false (.t 32)⟩,
         ⟨some 34, some (29, false), .bin .neq (.t 31) (.t 33)⟩,
         ⟨some 35, none, .pick (.t 29) (.c (.bool true)) (.t 34)⟩,
         ⟨some 36, none, .mov (.t 35)⟩,
         ⟨some 37, some (36, false), .faddr 2 (.t 5)⟩,
         ⟨some 38, some (36, false), .load 1 false (.t 37)⟩,
         ⟨some 39, some (36, false), .conv .toStr (.t 38)⟩,
         ⟨some 40, some (36, false), .faddr 2 (.t 1)⟩,
         ⟨some 41, some (36, false), .load 1 false (.t 40)⟩,
         ⟨some 42, some (36, false), .conv .toStr (.t 41)⟩,
         ⟨some 43, some (36, false), .bin .neq (.t 39) (.t 42)⟩,
         ⟨some 44, none, .pick (.t 36) (.c (.bool true)) (.t 43)⟩])
        (.cond (.t 44)
         (.seq
          (.reg [⟨some 2, none, .nilv 3⟩,
           ⟨some 3, none, .mov (.c (.int .i64 10))⟩])
          .ret)
         .skip))
       (.seq
        (.reg [⟨some 45, none, .mov (.t 4)⟩,
         ⟨some 2, none, .mov (.t 45)⟩,
         ⟨some 3, none, .mov (.c (.int .i64 0))⟩])
        .ret))))))), none⟩
def k17 : List (List Nat) := []
def o17 : List Nat := [1000038, 1000039, 1000040, 1000041, 1000044, 1000049, 1000050, 1000056, 3000000]
/-- tracebook/tracebookref33.Coding -/
def c18 : AFn := ⟨1, 19, [.t 2, .t 3],
 (.seq
  (.reg [⟨some 1, none, .box (.t 0)⟩,
   ⟨some 2, none, .mov (.c (.int .i64 0))⟩,
   ⟨some 3, none, .mov (.c (.int .i64 0))⟩])
  (.seq
   (.reg [⟨some 7, none, .load 3 true (.t 1)⟩,
    ⟨some 8, none, .call false 17 [(.t 7)]⟩,
    ⟨some 6, none, .mov (.t 8)⟩,
    ⟨some 9, none, .ext (.t 6) 0⟩,
    ⟨some 10, none, .ext (.t 6) 1⟩,
    ⟨some 4, none, .mov (.t 9)⟩,
    ⟨some 5, none, .mov (.t 10)⟩])
   (.seq
    (.seq
     (.reg [⟨some 11, none, .mov (.t 5)⟩,
      ⟨some 12, none, .bin .neq (.t 11) (.c (.int .i64 0))⟩])
     (.cond (.t 12)
      (.seq
       (.reg [⟨some 13, none, .mov (.t 5)⟩,
        ⟨some 2, none, .mov (.c (.int .i64 0))⟩,
        ⟨some 3, none, .mov (.t 13)⟩])
       .ret)
      .skip))
    (.seq
     (.reg [⟨some 14, none, .faddr 2 (.t 1)⟩,
      ⟨some 15, none, .load 1 false (.t 14)⟩,
      ⟨some 16, none, .iaddr (.slice 1) (.t 15) (.c (.int .i64 0))⟩,
      ⟨some 17, none, .load 1 false (.t 16)⟩,
      ⟨some 18, none, .conv (.int .i64) (.t 17)⟩,
      ⟨some 2, none, .mov (.t 18)⟩,
      ⟨some 3, none, .mov (.c (.int .i64 0))⟩])
     .ret)))), none⟩
def k18 : List (List Nat) := []
def o18 : List Nat := [1000038, 1000039, 1000040, 1000041, 1000044, 1000049, 1000050, 1000056, 3000000]
/-- tracebook/column.isType -/
def c19 : AFn := ⟨1, 13, [.t 2],
 (.seq
  (.reg [⟨some 2, none, .mov (.c (.bool false))⟩])
  (.seq
   (.reg [⟨some 3, none, .mov (.t 0)⟩,
    ⟨some 4, none, .bin .eql (.t 3) (.c (.int .i64 1))⟩,
    ⟨some 5, none, .mov (.t 4)⟩,
    ⟨some 6, some (5, false), .mov (.t 0)⟩,
    ⟨some 7, some (5, false), .bin .eql (.t 6) (.c (.int .i64 2))⟩,
    ⟨some 8, none, .pick (.t 5) (.c (.bool true)) (.t 7)⟩,
    ⟨some 9, none, .mov (.t 8)⟩,
    ⟨some 10, some (9, false), .mov (.t 0)⟩,
    ⟨some 11, some (9, false), .bin .eql (.t 10) (.c (.int .i64 3))⟩,
    ⟨some 12, none, .pick (.t 9) (.c (.bool true)) (.t 11)⟩,
    ⟨some 2, none, .mov (.t 12)⟩])
   .ret)), none⟩
def k19 : List (List Nat) := []
def o19 : List Nat := [1000038, 1000039, 1000040, 1000041, 1000044, 1000049, 1000050, 1000056, 3000000]
/-- tracebook/num.In -/
def c20 : AFn := ⟨1, 9, [.t 2],
 (.seq
  (.reg [⟨some 2, none, .mov (.c (.bool false))⟩])
  (.seq
   (.reg [⟨some 3, none, .mov (.t 0)⟩,
    ⟨some 4, none, .bin .leq (.c (.int .i64 (-1000000000000000))) (.t 3)⟩,
    ⟨some 5, none, .mov (.t 4)⟩,
    ⟨some 6, some (5, true), .mov (.t 0)⟩,
    ⟨some 7, some (5, true), .bin .leq (.t 6) (.c (.int .i64 1000000000000000))⟩,
    ⟨some 8, none, .pick (.t 5) (.t 7) (.c (.bool false))⟩,
    ⟨some 2, none, .mov (.t 8)⟩])
   .ret)), none⟩
def k20 : List (List Nat) := []
def o20 : List Nat := [1000038, 1000039, 1000040, 1000041, 1000044, 1000049, 1000050, 1000056, 3000000]
/-- tracebook/tracebookref01.In -/
def c21 : AFn := ⟨1, 9, [.t 2],
 (.seq
  (.reg [⟨some 2, none, .mov (.c (.bool false))⟩])
  (.seq
   (.reg [⟨some 3, none, .mov (.t 0)⟩,
    ⟨some 4, none, .bin .geq (.t 3) (.c (.int .i64 (-1000000000000000)))⟩,
    ⟨some 5, none, .mov (.t 4)⟩,
    ⟨some 6, some (5, true), .mov (.t 0)⟩,
    ⟨some 7, some (5, true), .bin .leq (.t 6) (.c (.int .i64 1000000000000000))⟩,
    ⟨some 8, none, .pick (.t 5) (.t 7) (.c (.bool false))⟩,
    ⟨some 2, none, .mov (.t 8)⟩])
   .ret)), none⟩
def k21 : List (List Nat) := []
def o21 : List Nat := [1000038, 1000039, 1000040, 1000041, 1000044, 1000049, 1000050, 1000056, 3000000]
/-- tracebook/tracebooklaw33.num -/
def c22 : AFn := ⟨1, 5, [.c 2 3 true],
 (.seq
  (.reg [⟨some 2, none, .alloc [(.int .i64 0), (.int .i64 0), (.str [])]⟩])
  (.seq
   (.reg [⟨some 3, none, .mov (.t 0)⟩,
    ⟨some 4, none, .build [(.int .i64 0), (.int .i64 0), (.str [])] [(0, 1, (.c (.int .i64 2))), (1, 1, (.t 3))]⟩,
    ⟨none, none, .store 3 (.t 2) (.t 4)⟩])
   .ret)), none⟩
def k22 : List (List Nat) := []
def o22 : List Nat := [1000038, 1000039, 1000040, 1000041, 1000044, 1000049, 1000050, 1000056, 3000000]
def c23b0 : AC := (.seq
        (.reg [⟨some 20, none, .bin .lss (.t 19) (.t 18)⟩])
        (.seq
         (.cond (.t 20)
          .skip
          (.exit 0))
         (.seq
          (.block 1
           (.seq
            (.reg [⟨some 21, none, .iaddr (.slice 1) (.t 17) (.t 19)⟩,
             ⟨some 22, none, .load 1 false (.t 21)⟩,
             ⟨some 7, none, .mov (.t 22)⟩])
            (.seq
             (.reg [⟨some 23, none, .mov (.t 7)⟩,
              ⟨some 24, none, .nilq true true (.t 23)⟩,
              ⟨some 25, none, .mov (.t 24)⟩,
              ⟨some 26, some (25, true), .mov (.t 7)⟩,
              ⟨some 27, some (25, true), .len (.t 26)⟩,
              ⟨some 28, some (25, true), .mov (.t 5)⟩,
              ⟨some 29, some (25, true), .len (.t 28)⟩,
              ⟨some 30, some (25, true), .bin .lss (.t 27) (.t 29)⟩,
              ⟨some 31, none, .pick (.t 25) (.t 30) (.c (.bool false))⟩])
             (.cond (.t 31)
              (.reg [⟨some 32, none, .mov (.t 7)⟩,
               ⟨some 5, none, .mov (.t 32)⟩])
              .skip))))
          (.reg [⟨some 33, none, .bin .add (.t 19) (.c (.int .i64 1))⟩,
           ⟨some 19, none, .mov (.t 33)⟩]))))
/-- tracebook/column.shortest -/
def c23 : AFn := ⟨2, 35, [.t 4],
 (.seq
  (.reg [⟨some 4, none, .nilv 1⟩])
  (.seq
   (.reg [⟨some 8, none, .mov (.t 1)⟩,
    ⟨some 9, none, .call true 31 [(.t 8)]⟩,
    ⟨some 5, none, .mov (.t 9)⟩])
   (.seq
    (.seq
     (.reg [⟨some 10, none, .mov (.t 1)⟩,
      ⟨some 11, none, .call true 32 [(.t 10)]⟩,
      ⟨some 12, none, .mov (.t 0)⟩,
      ⟨some 13, none, .mov (.t 1)⟩,
      ⟨some 14, none, .call true 33 [(.t 12), (.t 13)]⟩,
      ⟨some 15, none, .mov (.t 1)⟩,
      ⟨some 16, none, .call true 34 [(.t 15)]⟩,
      ⟨some 17, none, .bslice false 1 [.nilS] 3 [(0, (.t 11)), (1, (.t 14)), (2, (.t 16))]⟩,
      ⟨some 18, none, .len (.t 17)⟩,
      ⟨some 19, none, .mov (.c (.int .i64 0))⟩])
     (.block 0
      (.loop [5, 17, 18, 19]
       c23b0)))
    (.seq
     (.reg [⟨some 34, none, .mov (.t 5)⟩,
      ⟨some 4, none, .mov (.t 34)⟩])
     .ret)))), none⟩
def k23 : List (List Nat) := [[5, 17, 18, 19]]
def o23 : List Nat := [9, 11, 14, 16, 1000038, 1000039, 1000040, 1000041, 1000044, 1000049, 1000050, 1000056, 3000000]
def c24b0 : AC := (.seq
        (.seq
         (.reg [⟨some 5, none, .mov (.t 4)⟩,
          ⟨some 6, none, .mov (.t 0)⟩,
          ⟨some 7, none, .len (.t 6)⟩,
          ⟨some 8, none, .bin .lss (.t 5) (.t 7)⟩])
         (.cond (.t 8)
          .skip
          (.exit 0)))
        (.seq
         (.block 1
          (.reg [⟨some 11, none, .mov (.t 3)⟩,
           ⟨some 12, none, .mov (.t 0)⟩,
           ⟨some 13, none, .mov (.t 4)⟩,
           ⟨some 14, none, .iaddr (.slice 3) (.t 12) (.t 13)⟩,
           ⟨some 15, none, .load 3 true (.t 14)⟩,
           ⟨some 16, none, .call false 35 [(.t 11), (.t 15)]⟩,
           ⟨some 3, none, .mov (.t 16)⟩]))
         (.reg [⟨some 9, none, .mov (.t 4)⟩,
          ⟨some 10, none, .bin .add (.t 9) (.c (.int .i64 1))⟩,
          ⟨some 4, none, .mov (.t 10)⟩])))
/-- tracebook/tracebookref33.plain -/
def c24 : AFn := ⟨1, 18, [.t 2],
 (.seq
  (.reg [⟨some 2, none, .nilv 1⟩])
  (.seq
   (.reg [⟨some 3, none, .nilv 1⟩])
   (.seq
    (.seq
     (.reg [⟨some 4, none, .mov (.c (.int .i64 0))⟩])
     (.block 0
      (.loop [0, 3, 4]
       c24b0)))
    (.seq
     (.reg [⟨some 17, none, .mov (.t 3)⟩,
      ⟨some 2, none, .mov (.t 17)⟩])
     .ret)))), none⟩
def k24 : List (List Nat) := [[0, 3, 4]]
def o24 : List Nat := [1000038, 1000039, 1000040, 1000041, 1000044, 1000049, 1000050, 1000056, 3000000]
def c25b0 : AC := (.seq
              (.seq
               (.reg [⟨some 10, none, .mov (.t 4)⟩,
                ⟨some 11, none, .mov (.t 5)⟩,
                ⟨some 12, none, .bin .add (.t 10) (.t 11)⟩,
                ⟨some 13, none, .mov (.t 0)⟩,
                ⟨some 14, none, .len (.t 13)⟩,
                ⟨some 15, none, .bin .lss (.t 12) (.t 14)⟩,
                ⟨some 16, none, .mov (.t 15)⟩,
                ⟨some 17, some (16, true), .mov (.t 0)⟩,
                ⟨some 18, some (16, true), .mov (.t 4)⟩,
                ⟨some 19, some (16, true), .mov (.t 5)⟩,
                ⟨some 20, some (16, true), .bin .add (.t 18) (.t 19)⟩,
                ⟨some 21, some (16, true), .iaddr (.slice 3) (.t 17) (.t 20)⟩,
                ⟨some 22, some (16, true), .load 3 true (.t 21)⟩,
                ⟨some 23, some (16, true), .mov (.t 0)⟩,
                ⟨some 24, some (16, true), .mov (.t 4)⟩,
                ⟨some 25, some (16, true), .iaddr (.slice 3) (.t 23) (.t 24)⟩,
                ⟨some 26, some (16, true), .load 3 true (.t 25)⟩,
                ⟨some 27, some (16, true), .beqA false [.i, .i, .s] (.t 22) (.t 26)⟩,
                ⟨some 28, none, .pick (.t 16) (.t 27) (.c (.bool false))⟩])
               (.cond (.t 28)
                .skip
                (.exit 2)))
              (.block 3
               (.reg [⟨some 29, none, .mov (.t 5)⟩,
                ⟨some 30, none, .bin .add (.t 29) (.c (.int .i64 1))⟩,
                ⟨some 5, none, .mov (.t 30)⟩])))
def c25r0 : AC := (.seq
            (.reg [⟨some 31, none, .mov (.t 3)⟩,
             ⟨some 32, none, .mov (.t 5)⟩,
             ⟨some 33, none, .call false 36 [(.t 31), (.t 32)]⟩,
             ⟨some 34, none, .mov (.t 0)⟩,
             ⟨some 35, none, .mov (.t 4)⟩,
             ⟨some 36, none, .iaddr (.slice 3) (.t 34) (.t 35)⟩,
             ⟨some 37, none, .load 3 true (.t 36)⟩,
             ⟨some 38, none, .call false 35 [(.t 33), (.t 37)]⟩,
             ⟨some 3, none, .mov (.t 38)⟩])
            (.reg [⟨some 39, none, .mov (.t 4)⟩,
             ⟨some 40, none, .mov (.t 5)⟩,
             ⟨some 41, none, .bin .add (.t 39) (.t 40)⟩,
             ⟨some 4, none, .mov (.t 41)⟩]))
def c25b1 : AC := (.seq
        (.seq
         (.reg [⟨some 6, none, .mov (.t 4)⟩,
          ⟨some 7, none, .mov (.t 0)⟩,
          ⟨some 8, none, .len (.t 7)⟩,
          ⟨some 9, none, .bin .lss (.t 6) (.t 8)⟩])
         (.cond (.t 9)
          .skip
          (.exit 0)))
        (.block 1
         (.seq
          (.reg [⟨some 5, none, .mov (.c (.int .i64 1))⟩])
          (.seq
           (.block 2
            (.loop [0, 3, 4, 5]
             c25b0))
           c25r0))))
/-- tracebook/tracebookref33.runs -/
def c25 : AFn := ⟨1, 43, [.t 2],
 (.seq
  (.reg [⟨some 2, none, .nilv 1⟩])
  (.seq
   (.reg [⟨some 3, none, .nilv 1⟩])
   (.seq
    (.seq
     (.reg [⟨some 4, none, .mov (.c (.int .i64 0))⟩])
     (.block 0
      (.loop [0, 3, 4]
       c25b1)))
    (.seq
     (.reg [⟨some 42, none, .mov (.t 3)⟩,
      ⟨some 2, none, .mov (.t 42)⟩])
     .ret)))), none⟩
def k25 : List (List Nat) := [[0, 3, 4], [0, 3, 4, 5]]
def o25 : List Nat := [1000038, 1000039, 1000040, 1000041, 1000044, 1000049, 1000050, 1000056, 3000000]
def c26b0 : AC := (.seq
        (.seq
         (.reg [⟨some 9, none, .mov (.t 7)⟩,
          ⟨some 10, none, .mov (.t 1)⟩,
          ⟨some 11, none, .len (.t 10)⟩,
          ⟨some 12, none, .bin .lss (.t 9) (.t 11)⟩])
         (.cond (.t 12)
          .skip
          (.exit 0)))
        (.seq
         (.block 1
          (.seq
           (.seq
            (.reg [⟨some 15, none, .mov (.t 1)⟩,
             ⟨some 16, none, .mov (.t 7)⟩,
             ⟨some 17, none, .iaddr (.slice 3) (.t 15) (.t 16)⟩,
             ⟨some 18, none, .faddr 0 (.t 17)⟩,
             ⟨some 19, none, .load 1 false (.t 18)⟩,
             ⟨some 20, none, .mov (.t 0)⟩,
             ⟨some 21, none, .bin .neq (.t 19) (.t 20)⟩,
             ⟨some 22, none, .mov (.t 21)⟩,
             ⟨some 23, some (22, false), .mov (.t 0)⟩,
             ⟨some 24, some (22, false), .bin .eql (.t 23) (.c (.int .i64 3))⟩,
             ⟨some 25, none, .pick (.t 22) (.c (.bool true)) (.t 24)⟩])
            (.cond (.t 25)
             (.seq
              (.reg [⟨some 4, none, .nilv 1⟩,
               ⟨some 5, none, .mov (.c (.bool false))⟩])
              .ret)
             .skip))
           (.seq
            (.reg [⟨some 26, none, .mov (.t 1)⟩,
             ⟨some 27, none, .mov (.t 7)⟩,
             ⟨some 28, none, .iaddr (.slice 3) (.t 26) (.t 27)⟩,
             ⟨some 29, none, .faddr 1 (.t 28)⟩,
             ⟨some 30, none, .load 1 false (.t 29)⟩,
             ⟨some 8, none, .mov (.t 30)⟩])
            (.seq
             (.seq
              (.reg [⟨some 31, none, .mov (.t 7)⟩,
               ⟨some 32, none, .bin .gtr (.t 31) (.c (.int .i64 0))⟩])
              (.cond (.t 32)
               (.reg [⟨some 33, none, .mov (.t 8)⟩,
                ⟨some 34, none, .mov (.t 1)⟩,
                ⟨some 35, none, .mov (.t 7)⟩,
                ⟨some 36, none, .bin .sub (.t 35) (.c (.int .i64 1))⟩,
                ⟨some 37, none, .iaddr (.slice 3) (.t 34) (.t 36)⟩,
                ⟨some 38, none, .faddr 1 (.t 37)⟩,
                ⟨some 39, none, .load 1 false (.t 38)⟩,
                ⟨some 40, none, .bin .sub (.t 33) (.t 39)⟩,
                ⟨some 8, none, .mov (.t 40)⟩])
               .skip))
             (.reg [⟨some 41, none, .mov (.t 6)⟩,
              ⟨some 42, none, .mov (.t 8)⟩,
              ⟨some 43, none, .call false 36 [(.t 41), (.t 42)]⟩,
              ⟨some 6, none, .mov (.t 43)⟩])))))
         (.reg [⟨some 13, none, .mov (.t 7)⟩,
          ⟨some 14, none, .bin .add (.t 13) (.c (.int .i64 1))⟩,
          ⟨some 7, none, .mov (.t 14)⟩])))
/-- tracebook/tracebookref33.differences -/
def c26 : AFn := ⟨2, 47, [.t 4, .t 5],
 (.seq
  (.reg [⟨some 4, none, .nilv 1⟩,
   ⟨some 5, none, .mov (.c (.bool false))⟩])
  (.seq
   (.reg [⟨some 6, none, .nilv 1⟩])
   (.seq
    (.seq
     (.reg [⟨some 7, none, .mov (.c (.int .i64 0))⟩])
     (.block 0
      (.loop [0, 1, 6, 7]
       c26b0)))
    (.seq
     (.reg [⟨some 44, none, .mov (.t 6)⟩,
      ⟨some 45, none, .mov (.t 0)⟩,
      ⟨some 46, none, .bin .neq (.t 45) (.c (.int .i64 3))⟩,
      ⟨some 4, none, .mov (.t 44)⟩,
      ⟨some 5, none, .mov (.t 46)⟩])
     .ret)))), none⟩
def k26 : List (List Nat) := [[0, 1, 6, 7]]
def o26 : List Nat := [1000038, 1000039, 1000040, 1000041, 1000044, 1000049, 1000050, 1000056, 3000000]
def c27b0 : AC := (.seq
         (.seq
          (.reg [⟨some 7, none, .mov (.t 5)⟩,
           ⟨some 8, none, .mov (.t 0)⟩,
           ⟨some 9, none, .len (.t 8)⟩,
           ⟨some 10, none, .bin .lss (.t 7) (.t 9)⟩])
          (.cond (.t 10)
           .skip
           (.exit 0)))
         (.seq
          (.block 1
           (.seq
            (.seq
             (.reg [⟨some 13, none, .mov (.t 3)⟩,
              ⟨some 14, none, .mov (.t 0)⟩,
              ⟨some 15, none, .mov (.t 5)⟩,
              ⟨some 16, none, .iaddr (.slice 3) (.t 14) (.t 15)⟩,
              ⟨some 17, none, .load 3 true (.t 16)⟩,
              ⟨some 18, none, .call false 37 [(.t 13), (.t 17)]⟩,
              ⟨some 19, none, .bin .lss (.t 18) (.c (.int .i64 0))⟩])
             (.cond (.t 19)
              (.reg [⟨some 20, none, .mov (.t 3)⟩,
               ⟨some 21, none, .mov (.t 0)⟩,
               ⟨some 22, none, .mov (.t 5)⟩,
               ⟨some 23, none, .iaddr (.slice 3) (.t 21) (.t 22)⟩,
               ⟨some 24, none, .load 3 true (.t 23)⟩,
               ⟨some 25, none, .bslice false 3 [(.int .i64 0), (.int .i64 0), (.str [])] 1 [(0, (.t 24))]⟩,
               ⟨some 26, none, .append 3 32 (.t 20) (.t 25)⟩,
               ⟨some 3, none, .mov (.t 26)⟩])
              .skip))
            (.reg [⟨some 27, none, .mov (.t 4)⟩,
             ⟨some 28, none, .mov (.t 3)⟩,
             ⟨some 29, none, .mov (.t 0)⟩,
             ⟨some 30, none, .mov (.t 5)⟩,
             ⟨some 31, none, .iaddr (.slice 3) (.t 29) (.t 30)⟩,
             ⟨some 32, none, .load 3 true (.t 31)⟩,
             ⟨some 33, none, .call false 37 [(.t 28), (.t 32)]⟩,
             ⟨some 34, none, .call false 36 [(.t 27), (.t 33)]⟩,
             ⟨some 4, none, .mov (.t 34)⟩])))
          (.reg [⟨some 11, none, .mov (.t 5)⟩,
           ⟨some 12, none, .bin .add (.t 11) (.c (.int .i64 1))⟩,
           ⟨some 5, none, .mov (.t 12)⟩])))
def c27r0 : AC := (.seq
      (.reg [⟨some 35, none, .mov (.t 3)⟩,
       ⟨some 36, none, .len (.t 35)⟩,
       ⟨some 37, none, .call true 36 [(.c .nilS), (.t 36)]⟩,
       ⟨some 38, none, .mov (.t 3)⟩,
       ⟨some 39, none, .call false 24 [(.t 38)]⟩,
       ⟨some 40, none, .append 1 1 (.t 37) (.t 39)⟩,
       ⟨some 6, none, .mov (.t 40)⟩])
      (.seq
       (.reg [⟨some 41, none, .mov (.t 6)⟩,
        ⟨some 42, none, .mov (.t 4)⟩,
        ⟨some 43, none, .append 1 1 (.t 41) (.t 42)⟩,
        ⟨some 2, none, .mov (.t 43)⟩])
       .ret))
/-- tracebook/tracebookref33.dictionary -/
def c27 : AFn := ⟨1, 44, [.t 2],
 (.seq
  (.reg [⟨some 2, none, .nilv 1⟩])
  (.seq
   (.reg [⟨some 3, none, .nilv 3⟩])
   (.seq
    (.reg [⟨some 4, none, .nilv 1⟩])
    (.seq
     (.seq
      (.reg [⟨some 5, none, .mov (.c (.int .i64 0))⟩])
      (.block 0
       (.loop [0, 3, 4, 5]
        c27b0)))
     c27r0)))), none⟩
def k27 : List (List Nat) := [[0, 3, 4, 5]]
def o27 : List Nat := [1000038, 1000039, 1000040, 1000041, 1000044, 1000049, 1000050, 1000056, 3000000, 37]
/-- tracebook/column.decode -/
def c28 : AFn := ⟨1, 56, [.t 2, .t 3],
 (.seq
  (.reg [⟨some 1, none, .box (.t 0)⟩,
   ⟨some 2, none, .nilv 3⟩,
   ⟨some 3, none, .mov (.c (.bool false))⟩])
  (.seq
   (.seq
    (.reg [⟨some 6, none, .faddr 2 (.t 1)⟩,
     ⟨some 7, none, .load 1 false (.t 6)⟩,
     ⟨some 8, none, .len (.t 7)⟩,
     ⟨some 9, none, .bin .eql (.t 8) (.c (.int .i64 0))⟩,
     ⟨some 10, none, .mov (.t 9)⟩,
     ⟨some 11, some (10, false), .faddr 1 (.t 1)⟩,
     ⟨some 12, some (10, false), .load 1 false (.t 11)⟩,
     ⟨some 13, some (10, false), .bin .lss (.t 12) (.c (.int .i64 0))⟩,
     ⟨some 14, none, .pick (.t 10) (.c (.bool true)) (.t 13)⟩])
    (.cond (.t 14)
     (.seq
      (.reg [⟨some 2, none, .nilv 3⟩,
       ⟨some 3, none, .mov (.c (.bool false))⟩])
      .ret)
     .skip))
   (.seq
    (.reg [⟨some 15, none, .faddr 2 (.t 1)⟩,
     ⟨some 16, none, .load 1 false (.t 15)⟩,
     ⟨some 17, none, .slc (.slice 1) (.t 16) (some (.c (.int .i64 1))) none none⟩,
     ⟨some 18, none, .build [.nilS, (.bool false)] [(0, 1, (.t 17))]⟩,
     ⟨some 19, none, .box (.t 18)⟩,
     ⟨some 4, none, .mov (.t 19)⟩])
    (.seq
     (.reg [⟨some 5, none, .nilv 3⟩])
     (.seq
      (.seq
       (.reg [⟨some 20, none, .faddr 2 (.t 1)⟩,
        ⟨some 21, none, .load 1 false (.t 20)⟩,
        ⟨some 22, none, .iaddr (.slice 1) (.t 21) (.c (.int .i64 0))⟩,
        ⟨some 23, none, .load 1 false (.t 22)⟩])
       (.block 0
        (.seq
         (.reg [⟨some 25, none, .bin .eql (.t 23) (.c (.int .u8 0))⟩,
          ⟨some 24, none, .mov (.t 25)⟩])
         (.cond (.t 24)
          (.reg [⟨some 26, none, .mov (.t 4)⟩,
           ⟨some 27, none, .faddr 1 (.t 1)⟩,
           ⟨some 28, none, .load 1 false (.t 27)⟩,
           ⟨some 29, none, .callS 38 [(.t 26), (.t 28)]⟩,
           ⟨some 5, none, .mov (.t 29)⟩])
          (.seq
           (.reg [⟨some 31, none, .bin .eql (.t 23) (.c (.int .u8 1))⟩,
            ⟨some 30, none, .mov (.t 31)⟩])
           (.cond (.t 30)
            (.reg [⟨some 32, none, .mov (.t 4)⟩,
             ⟨some 33, none, .faddr 1 (.t 1)⟩,
             ⟨some 34, none, .load 1 false (.t 33)⟩,
             ⟨some 35, none, .callS 39 [(.t 32), (.t 34)]⟩,
             ⟨some 5, none, .mov (.t 35)⟩])
            (.seq
             (.reg [⟨some 37, none, .bin .eql (.t 23) (.c (.int .u8 2))⟩,
              ⟨some 36, none, .mov (.t 37)⟩])
             (.cond (.t 36)
              (.reg [⟨some 38, none, .mov (.t 4)⟩,
               ⟨some 39, none, .faddr 0 (.t 1)⟩,
               ⟨some 40, none, .load 1 false (.t 39)⟩,
               ⟨some 41, none, .faddr 1 (.t 1)⟩,
               ⟨some 42, none, .load 1 false (.t 41)⟩,
               ⟨some 43, none, .callS 40 [(.t 38), (.t 40), (.t 42)]⟩,
               ⟨some 5, none, .mov (.t 43)⟩])
              (.seq
               (.reg [⟨some 45, none, .bin .eql (.t 23) (.c (.int .u8 3))⟩,
                ⟨some 44, none, .mov (.t 45)⟩])
               (.cond (.t 44)
                (.reg [⟨some 46, none, .mov (.t 4)⟩,
                 ⟨some 47, none, .faddr 1 (.t 1)⟩,
                 ⟨some 48, none, .load 1 false (.t 47)⟩,
                 ⟨some 49, none, .callS 41 [(.t 46), (.t 48)]⟩,
                 ⟨some 5, none, .mov (.t 49)⟩])
                (.seq
                 (.reg [⟨some 2, none, .nilv 3⟩,
                  ⟨some 3, none, .mov (.c (.bool false))⟩])
                 .ret)))))))))))
      (.seq
       (.reg [⟨some 50, none, .mov (.t 5)⟩,
        ⟨some 51, none, .mov (.t 4)⟩,
        ⟨some 52, none, .nilck (.t 51)⟩,
        ⟨some 53, none, .faddr 1 (.t 52)⟩,
        ⟨some 54, none, .load 1 false (.t 53)⟩,
        ⟨some 55, none, .un .not (.t 54)⟩,
        ⟨some 2, none, .mov (.t 50)⟩,
        ⟨some 3, none, .mov (.t 55)⟩])
       .ret)))))), none⟩
def k28 : List (List Nat) := []
def o28 : List Nat := [1000038, 1000039, 1000040, 1000041, 1000044, 1000049, 1000050, 1000056, 3000000]
/-- bytes.Equal -/
def c29 : AFn := ⟨2, 10, [.t 4],
 (.seq
  (.reg [⟨some 4, none, .mov (.c (.bool false))⟩])
  (.seq
   (.reg [⟨some 5, none, .mov (.t 0)⟩,
    ⟨some 6, none, .conv .toStr (.t 5)⟩,
    ⟨some 7, none, .mov (.t 1)⟩,
    ⟨some 8, none, .conv .toStr (.t 7)⟩,
    ⟨some 9, none, .bin .eql (.t 6) (.t 8)⟩,
    ⟨some 4, none, .mov (.t 9)⟩])
   .ret)), none⟩
def k29 : List (List Nat) := []
def o29 : List Nat := [1000038, 1000039, 1000040, 1000041, 1000044, 1000049, 1000050, 1000056, 3000000]
def c30b0 : AC := (.seq
                         (.seq
                          (.reg [⟨some 161, none, .mov (.t 20)⟩,
                           ⟨some 162, none, .mov (.t 14)⟩,
                           ⟨some 163, none, .bin .lss (.t 161) (.t 162)⟩,
                           ⟨some 164, none, .mov (.t 163)⟩,
                           ⟨some 165, some (164, true), .mov (.t 3)⟩,
                           ⟨some 166, some (164, true), .len (.t 165)⟩,
                           ⟨some 167, some (164, true), .faddr 1 (.t 1)⟩,
                           ⟨some 168, some (164, true), .load 1 false (.t 167)⟩,
                           ⟨some 169, some (164, true), .bin .lss (.t 166) (.t 168)⟩,
                           ⟨some 170, none, .pick (.t 164) (.t 169) (.c (.bool false))⟩])
                          (.cond (.t 170)
                           .skip
                           (.exit 4)))
                         (.seq
                          (.block 5
                           (.reg [⟨some 173, none, .mov (.t 3)⟩,
                            ⟨some 174, none, .load 3 true (.t 18)⟩,
                            ⟨some 175, none, .bslice false 3 [(.int .i64 0), (.int .i64 0), (.str [])] 1 [(0, (.t 174))]⟩,
                            ⟨some 176, none, .append 3 32 (.t 173) (.t 175)⟩,
                            ⟨some 3, none, .mov (.t 176)⟩]))
                          (.reg [⟨some 171, none, .mov (.t 20)⟩,
                           ⟨some 172, none, .bin .add (.t 171) (.c (.int .i64 1))⟩,
                           ⟨some 20, none, .mov (.t 172)⟩])))
def c30b1 : AC := (.seq
           (.seq
            (.reg [⟨some 67, none, .mov (.t 3)⟩,
             ⟨some 68, none, .len (.t 67)⟩,
             ⟨some 69, none, .faddr 1 (.t 1)⟩,
             ⟨some 70, none, .load 1 false (.t 69)⟩,
             ⟨some 71, none, .bin .lss (.t 68) (.t 70)⟩,
             ⟨some 72, none, .mov (.t 71)⟩,
             ⟨some 73, some (72, true), .mov (.t 5)⟩,
             ⟨some 74, some (72, true), .len (.t 73)⟩,
             ⟨some 75, some (72, true), .bin .gtr (.t 74) (.c (.int .i64 0))⟩,
             ⟨some 76, none, .pick (.t 72) (.t 75) (.c (.bool false))⟩])
            (.cond (.t 76)
             .skip
             (.exit 2)))
           (.block 3
            (.seq
             (.seq
              (.reg [⟨some 77, none, .faddr 2 (.t 1)⟩,
               ⟨some 78, none, .load 1 false (.t 77)⟩,
               ⟨some 79, none, .iaddr (.slice 1) (.t 78) (.c (.int .i64 0))⟩,
               ⟨some 80, none, .load 1 false (.t 79)⟩,
               ⟨some 81, none, .bin .eql (.t 80) (.c (.int .u8 0))⟩])
              (.cond (.t 81)
               (.seq
                (.reg [⟨some 83, none, .mov (.t 5)⟩,
                 ⟨some 84, none, .call false 43 [(.t 83)]⟩,
                 ⟨some 82, none, .mov (.t 84)⟩,
                 ⟨some 85, none, .ext (.t 82) 0⟩,
                 ⟨some 86, none, .ext (.t 82) 1⟩,
                 ⟨some 12, none, .alloc [(.int .i64 0), (.int .i64 0), (.str [])]⟩,
                 ⟨none, none, .store 3 (.t 12) (.t 85)⟩,
                 ⟨some 13, none, .mov (.t 86)⟩])
                (.seq
                 (.seq
                  (.reg [⟨some 87, none, .mov (.t 13)⟩,
                   ⟨some 88, none, .bin .eql (.t 87) (.c (.int .i64 0))⟩])
                  (.cond (.t 88)
                   (.seq
                    (.reg [⟨some 2, none, .nilv 3⟩])
                    .ret)
                   .skip))
                 (.seq
                  (.reg [⟨some 89, none, .mov (.t 3)⟩,
                   ⟨some 90, none, .load 3 true (.t 12)⟩,
                   ⟨some 91, none, .bslice false 3 [(.int .i64 0), (.int .i64 0), (.str [])] 1 [(0, (.t 90))]⟩,
                   ⟨some 92, none, .append 3 32 (.t 89) (.t 91)⟩,
                   ⟨some 3, none, .mov (.t 92)⟩])
                  (.seq
                   (.reg [⟨some 93, none, .mov (.t 5)⟩,
                    ⟨some 94, none, .mov (.t 13)⟩,
                    ⟨some 95, none, .slc (.slice 1) (.t 93) (some (.t 94)) none none⟩,
                    ⟨some 5, none, .mov (.t 95)⟩])
                   (.exit 3)))))
               .skip))
             (.seq
              (.reg [⟨some 97, none, .mov (.t 5)⟩,
               ⟨some 98, none, .call false 42 [(.t 97)]⟩,
               ⟨some 96, none, .mov (.t 98)⟩,
               ⟨some 99, none, .ext (.t 96) 0⟩,
               ⟨some 100, none, .ext (.t 96) 1⟩,
               ⟨some 101, none, .ext (.t 96) 2⟩,
               ⟨some 14, none, .mov (.t 99)⟩,
               ⟨some 15, none, .mov (.t 100)⟩,
               ⟨some 16, none, .mov (.t 101)⟩])
              (.seq
               (.seq
                (.reg [⟨some 102, none, .mov (.t 16)⟩,
                 ⟨some 103, none, .bin .neq (.t 102) (.c (.int .i64 0))⟩])
                (.cond (.t 103)
                 (.seq
                  (.reg [⟨some 2, none, .nilv 3⟩])
                  .ret)
                 .skip))
               (.seq
                (.reg [⟨some 104, none, .mov (.t 5)⟩,
                 ⟨some 105, none, .mov (.t 15)⟩,
                 ⟨some 106, none, .slc (.slice 1) (.t 104) (some (.t 105)) none none⟩,
                 ⟨some 5, none, .mov (.t 106)⟩])
                (.seq
                 (.seq
                  (.reg [⟨some 107, none, .faddr 2 (.t 1)⟩,
                   ⟨some 108, none, .load 1 false (.t 107)⟩,
                   ⟨some 109, none, .iaddr (.slice 1) (.t 108) (.c (.int .i64 0))⟩,
                   ⟨some 110, none, .load 1 false (.t 109)⟩,
                   ⟨some 111, none, .bin .eql (.t 110) (.c (.int .u8 2))⟩])
                  (.cond (.t 111)
                   (.seq
                    (.reg [⟨some 112, none, .faddr 0 (.t 1)⟩,
                     ⟨some 113, none, .load 1 false (.t 112)⟩,
                     ⟨some 114, none, .mov (.t 14)⟩,
                     ⟨some 115, none, .build [(.int .i64 0), (.int .i64 0), (.str [])] [(0, 1, (.t 113)), (1, 1, (.t 114))]⟩,
                     ⟨some 17, none, .alloc [(.int .i64 0), (.int .i64 0), (.str [])]⟩,
                     ⟨none, none, .store 3 (.t 17) (.t 115)⟩])
                    (.seq
                     (.seq
                      (.reg [⟨some 116, none, .mov (.t 3)⟩,
                       ⟨some 117, none, .len (.t 116)⟩,
                       ⟨some 118, none, .bin .gtr (.t 117) (.c (.int .i64 0))⟩])
                      (.cond (.t 118)
                       (.reg [⟨some 119, none, .faddr 1 (.t 17)⟩,
                        ⟨some 120, none, .load 1 false (.t 119)⟩,
                        ⟨some 121, none, .mov (.t 3)⟩,
                        ⟨some 122, none, .mov (.t 3)⟩,
                        ⟨some 123, none, .len (.t 122)⟩,
                        ⟨some 124, none, .bin .sub (.t 123) (.c (.int .i64 1))⟩,
                        ⟨some 125, none, .iaddr (.slice 3) (.t 121) (.t 124)⟩,
                        ⟨some 126, none, .faddr 1 (.t 125)⟩,
                        ⟨some 127, none, .load 1 false (.t 126)⟩,
                        ⟨some 128, none, .bin .add (.t 120) (.t 127)⟩,
                        ⟨some 129, none, .faddr 1 (.t 17)⟩,
                        ⟨none, none, .store 1 (.t 129) (.t 128)⟩])
                       .skip))
                     (.seq
                      (.reg [⟨some 130, none, .mov (.t 3)⟩,
                       ⟨some 131, none, .load 3 true (.t 17)⟩,
                       ⟨some 132, none, .bslice false 3 [(.int .i64 0), (.int .i64 0), (.str [])] 1 [(0, (.t 131))]⟩,
                       ⟨some 133, none, .append 3 32 (.t 130) (.t 132)⟩,
                       ⟨some 3, none, .mov (.t 133)⟩])
                      (.exit 3))))
                   .skip))
                 (.seq
                  (.seq
                   (.reg [⟨some 134, none, .faddr 2 (.t 1)⟩,
                    ⟨some 135, none, .load 1 false (.t 134)⟩,
                    ⟨some 136, none, .iaddr (.slice 1) (.t 135) (.c (.int .i64 0))⟩,
                    ⟨some 137, none, .load 1 false (.t 136)⟩,
                    ⟨some 138, none, .bin .eql (.t 137) (.c (.int .u8 3))⟩])
                   (.cond (.t 138)
                    (.seq
                     (.seq
                      (.reg [⟨some 139, none, .mov (.t 14)⟩,
                       ⟨some 140, none, .bin .lss (.t 139) (.c (.int .i64 0))⟩,
                       ⟨some 141, none, .mov (.t 140)⟩,
                       ⟨some 142, some (141, false), .mov (.t 14)⟩,
                       ⟨some 143, some (141, false), .mov (.t 4)⟩,
                       ⟨some 144, some (141, false), .len (.t 143)⟩,
                       ⟨some 145, some (141, false), .bin .geq (.t 142) (.t 144)⟩,
                       ⟨some 146, none, .pick (.t 141) (.c (.bool true)) (.t 145)⟩])
                      (.cond (.t 146)
                       (.seq
                        (.reg [⟨some 2, none, .nilv 3⟩])
                        .ret)
                       .skip))
                     (.seq
                      (.reg [⟨some 147, none, .mov (.t 3)⟩,
                       ⟨some 148, none, .mov (.t 4)⟩,
                       ⟨some 149, none, .mov (.t 14)⟩,
                       ⟨some 150, none, .iaddr (.slice 3) (.t 148) (.t 149)⟩,
                       ⟨some 151, none, .load 3 true (.t 150)⟩,
                       ⟨some 152, none, .bslice false 3 [(.int .i64 0), (.int .i64 0), (.str [])] 1 [(0, (.t 151))]⟩,
                       ⟨some 153, none, .append 3 32 (.t 147) (.t 152)⟩,
                       ⟨some 3, none, .mov (.t 153)⟩])
                      (.exit 3)))
                    .skip))
                  (.seq
                   (.reg [⟨some 155, none, .mov (.t 5)⟩,
                    ⟨some 156, none, .call false 43 [(.t 155)]⟩,
                    ⟨some 154, none, .mov (.t 156)⟩,
                    ⟨some 157, none, .ext (.t 154) 0⟩,
                    ⟨some 158, none, .ext (.t 154) 1⟩,
                    ⟨some 18, none, .alloc [(.int .i64 0), (.int .i64 0), (.str [])]⟩,
                    ⟨none, none, .store 3 (.t 18) (.t 157)⟩,
                    ⟨some 19, none, .mov (.t 158)⟩])
                   (.seq
                    (.seq
                     (.reg [⟨some 159, none, .mov (.t 19)⟩,
                      ⟨some 160, none, .bin .eql (.t 159) (.c (.int .i64 0))⟩])
                     (.cond (.t 160)
                      (.seq
                       (.reg [⟨some 2, none, .nilv 3⟩])
                       .ret)
                      .skip))
                    (.seq
                     (.seq
                      (.reg [⟨some 20, none, .mov (.c (.int .i64 0))⟩])
                      (.block 4
                       (.loop [1, 3, 4, 5, 14, 18, 19, 20]
                        c30b0)))
                     (.reg [⟨some 177, none, .mov (.t 5)⟩,
                      ⟨some 178, none, .mov (.t 19)⟩,
                      ⟨some 179, none, .slc (.slice 1) (.t 177) (some (.t 178)) none none⟩,
                      ⟨some 5, none, .mov (.t 179)⟩]))))))))))))
def c30b2 : AC := (.seq
                (.seq
                 (.reg [⟨some 44, none, .mov (.t 9)⟩,
                  ⟨some 45, none, .mov (.t 6)⟩,
                  ⟨some 46, none, .bin .lss (.t 44) (.t 45)⟩,
                  ⟨some 47, none, .mov (.t 46)⟩,
                  ⟨some 48, some (47, true), .mov (.t 9)⟩,
                  ⟨some 49, some (47, true), .faddr 1 (.t 1)⟩,
                  ⟨some 50, some (47, true), .load 1 false (.t 49)⟩,
                  ⟨some 51, some (47, true), .bin .lss (.t 48) (.t 50)⟩,
                  ⟨some 52, none, .pick (.t 47) (.t 51) (.c (.bool false))⟩])
                 (.cond (.t 52)
                  .skip
                  (.exit 0)))
                (.seq
                 (.block 1
                  (.seq
                   (.reg [⟨some 56, none, .mov (.t 5)⟩,
                    ⟨some 57, none, .call false 43 [(.t 56)]⟩,
                    ⟨some 55, none, .mov (.t 57)⟩,
                    ⟨some 58, none, .ext (.t 55) 0⟩,
                    ⟨some 59, none, .ext (.t 55) 1⟩,
                    ⟨some 10, none, .alloc [(.int .i64 0), (.int .i64 0), (.str [])]⟩,
                    ⟨none, none, .store 3 (.t 10) (.t 58)⟩,
                    ⟨some 11, none, .mov (.t 59)⟩])
                   (.seq
                    (.reg [⟨some 60, none, .mov (.t 4)⟩,
                     ⟨some 61, none, .load 3 true (.t 10)⟩,
                     ⟨some 62, none, .bslice false 3 [(.int .i64 0), (.int .i64 0), (.str [])] 1 [(0, (.t 61))]⟩,
                     ⟨some 63, none, .append 3 32 (.t 60) (.t 62)⟩,
                     ⟨some 4, none, .mov (.t 63)⟩])
                    (.reg [⟨some 64, none, .mov (.t 5)⟩,
                     ⟨some 65, none, .mov (.t 11)⟩,
                     ⟨some 66, none, .slc (.slice 1) (.t 64) (some (.t 65)) none none⟩,
                     ⟨some 5, none, .mov (.t 66)⟩]))))
                 (.reg [⟨some 53, none, .mov (.t 9)⟩,
                  ⟨some 54, none, .bin .add (.t 53) (.c (.int .i64 1))⟩,
                  ⟨some 9, none, .mov (.t 54)⟩])))
def c30r0 : AC := (.seq
        (.block 2
         (.loop [1, 3, 4, 5]
          c30b1))
        (.seq
         (.reg [⟨some 180, none, .mov (.t 3)⟩,
          ⟨some 2, none, .mov (.t 180)⟩])
         .ret))
/-- tracebook/tracebookref33.unpack -/
def c30 : AFn := ⟨1, 181, [.t 2],
 (.seq
  (.reg [⟨some 1, none, .box (.t 0)⟩,
   ⟨some 2, none, .nilv 3⟩])
  (.seq
   (.reg [⟨some 3, none, .nilv 3⟩])
   (.seq
    (.reg [⟨some 4, none, .nilv 3⟩])
    (.seq
     (.seq
      (.reg [⟨some 21, none, .faddr 2 (.t 1)⟩,
       ⟨some 22, none, .load 1 false (.t 21)⟩,
       ⟨some 23, none, .len (.t 22)⟩,
       ⟨some 24, none, .bin .eql (.t 23) (.c (.int .i64 0))⟩])
      (.cond (.t 24)
       (.seq
        (.reg [⟨some 2, none, .nilv 3⟩])
        .ret)
       .skip))
     (.seq
      (.reg [⟨some 25, none, .faddr 2 (.t 1)⟩,
       ⟨some 26, none, .load 1 false (.t 25)⟩,
       ⟨some 27, none, .slc (.slice 1) (.t 26) (some (.c (.int .i64 1))) none none⟩,
       ⟨some 5, none, .mov (.t 27)⟩])
      (.seq
       (.seq
        (.reg [⟨some 28, none, .faddr 2 (.t 1)⟩,
         ⟨some 29, none, .load 1 false (.t 28)⟩,
         ⟨some 30, none, .iaddr (.slice 1) (.t 29) (.c (.int .i64 0))⟩,
         ⟨some 31, none, .load 1 false (.t 30)⟩,
         ⟨some 32, none, .bin .eql (.t 31) (.c (.int .u8 3))⟩])
        (.cond (.t 32)
         (.seq
          (.reg [⟨some 34, none, .mov (.t 5)⟩,
           ⟨some 35, none, .call false 42 [(.t 34)]⟩,
           ⟨some 33, none, .mov (.t 35)⟩,
           ⟨some 36, none, .ext (.t 33) 0⟩,
           ⟨some 37, none, .ext (.t 33) 1⟩,
           ⟨some 38, none, .ext (.t 33) 2⟩,
           ⟨some 6, none, .mov (.t 36)⟩,
           ⟨some 7, none, .mov (.t 37)⟩,
           ⟨some 8, none, .mov (.t 38)⟩])
          (.seq
           (.seq
            (.reg [⟨some 39, none, .mov (.t 8)⟩,
             ⟨some 40, none, .bin .neq (.t 39) (.c (.int .i64 0))⟩])
            (.cond (.t 40)
             (.seq
              (.reg [⟨some 2, none, .nilv 3⟩])
              .ret)
             .skip))
           (.seq
            (.reg [⟨some 41, none, .mov (.t 5)⟩,
             ⟨some 42, none, .mov (.t 7)⟩,
             ⟨some 43, none, .slc (.slice 1) (.t 41) (some (.t 42)) none none⟩,
             ⟨some 5, none, .mov (.t 43)⟩])
            (.seq
             (.reg [⟨some 9, none, .mov (.c (.int .i64 0))⟩])
             (.block 0
              (.loop [1, 3, 4, 5, 6, 9]
               c30b2))))))
         .skip))
       c30r0)))))), none⟩
def k30 : List (List Nat) := [[1, 3, 4, 5, 6, 9], [1, 3, 4, 5], [1, 3, 4, 5, 14, 18, 19, 20]]
def o30 : List Nat := [1000038, 1000039, 1000040, 1000041, 1000044, 1000049, 1000050, 1000056, 3000000]
def c31b0 : AC := (.seq
        (.reg [⟨some 10, none, .bin .lss (.t 9) (.t 8)⟩])
        (.seq
         (.cond (.t 10)
          .skip
          (.exit 0))
         (.seq
          (.block 1
           (.seq
            (.reg [⟨some 11, none, .iaddr (.slice 3) (.t 7) (.t 9)⟩,
             ⟨some 12, none, .load 3 true (.t 11)⟩,
             ⟨some 5, none, .alloc [(.int .i64 0), (.int .i64 0), (.str [])]⟩,
             ⟨none, none, .store 3 (.t 5) (.t 12)⟩])
            (.reg [⟨some 13, none, .mov (.t 3)⟩,
             ⟨some 14, none, .load 3 true (.t 5)⟩,
             ⟨some 15, none, .callS 44 [(.t 13), (.t 14)]⟩,
             ⟨some 3, none, .mov (.t 15)⟩])))
          (.reg [⟨some 16, none, .bin .add (.t 9) (.c (.int .i64 1))⟩,
           ⟨some 9, none, .mov (.t 16)⟩]))))
/-- tracebook/column.encodePlain -/
def c31 : AFn := ⟨1, 18, [.t 2],
 (.seq
  (.reg [⟨some 2, none, .nilv 1⟩])
  (.seq
   (.reg [⟨some 6, none, .bslice true 1 [(.int .u8 0)] 1 [(0, (.c (.int .u8 0)))]⟩,
    ⟨some 3, none, .mov (.t 6)⟩])
   (.seq
    (.seq
     (.reg [⟨some 7, none, .mov (.t 0)⟩,
      ⟨some 8, none, .len (.t 7)⟩,
      ⟨some 9, none, .mov (.c (.int .i64 0))⟩])
     (.block 0
      (.loop [3, 7, 8, 9]
       c31b0)))
    (.seq
     (.reg [⟨some 17, none, .mov (.t 3)⟩,
      ⟨some 2, none, .mov (.t 17)⟩])
     .ret)))), none⟩
def k31 : List (List Nat) := [[3, 7, 8, 9]]
def o31 : List Nat := [1000038, 1000039, 1000040, 1000041, 1000044, 1000049, 1000050, 1000056, 3000000, 6]
def c32b0 : AC := (.seq
              (.seq
               (.reg [⟨some 13, none, .mov (.t 5)⟩,
                ⟨some 14, none, .mov (.t 0)⟩,
                ⟨some 15, none, .len (.t 14)⟩,
                ⟨some 16, none, .bin .lss (.t 13) (.t 15)⟩,
                ⟨some 17, none, .mov (.t 16)⟩,
                ⟨some 18, some (17, true), .mov (.t 0)⟩,
                ⟨some 19, some (17, true), .mov (.t 5)⟩,
                ⟨some 20, some (17, true), .iaddr (.slice 3) (.t 18) (.t 19)⟩,
                ⟨some 21, some (17, true), .load 3 true (.t 20)⟩,
                ⟨some 22, some (17, true), .mov (.t 0)⟩,
                ⟨some 23, some (17, true), .mov (.t 4)⟩,
                ⟨some 24, some (17, true), .iaddr (.slice 3) (.t 22) (.t 23)⟩,
                ⟨some 25, some (17, true), .load 3 true (.t 24)⟩,
                ⟨some 26, some (17, true), .beqA false [.i, .i, .s] (.t 21) (.t 25)⟩,
                ⟨some 27, none, .pick (.t 17) (.t 26) (.c (.bool false))⟩])
               (.cond (.t 27)
                .skip
                (.exit 2)))
              (.block 3
               (.reg [⟨some 28, none, .mov (.t 5)⟩,
                ⟨some 29, none, .bin .add (.t 28) (.c (.int .i64 1))⟩,
                ⟨some 5, none, .mov (.t 29)⟩])))
def c32r0 : AC := (.seq
            (.reg [⟨some 30, none, .mov (.t 3)⟩,
             ⟨some 31, none, .mov (.t 5)⟩,
             ⟨some 32, none, .mov (.t 4)⟩,
             ⟨some 33, none, .bin .sub (.t 31) (.t 32)⟩,
             ⟨some 34, none, .call false 45 [(.c .nilS), (.t 33)]⟩,
             ⟨some 35, none, .append 1 1 (.t 30) (.t 34)⟩,
             ⟨some 3, none, .mov (.t 35)⟩])
            (.seq
             (.reg [⟨some 36, none, .mov (.t 3)⟩,
              ⟨some 37, none, .mov (.t 0)⟩,
              ⟨some 38, none, .mov (.t 4)⟩,
              ⟨some 39, none, .iaddr (.slice 3) (.t 37) (.t 38)⟩,
              ⟨some 40, none, .load 3 true (.t 39)⟩,
              ⟨some 41, none, .callS 44 [(.t 36), (.t 40)]⟩,
              ⟨some 3, none, .mov (.t 41)⟩])
             (.reg [⟨some 42, none, .mov (.t 5)⟩,
              ⟨some 4, none, .mov (.t 42)⟩])))
def c32b1 : AC := (.seq
        (.seq
         (.reg [⟨some 7, none, .mov (.t 4)⟩,
          ⟨some 8, none, .mov (.t 0)⟩,
          ⟨some 9, none, .len (.t 8)⟩,
          ⟨some 10, none, .bin .lss (.t 7) (.t 9)⟩])
         (.cond (.t 10)
          .skip
          (.exit 0)))
        (.block 1
         (.seq
          (.reg [⟨some 11, none, .mov (.t 4)⟩,
           ⟨some 12, none, .bin .add (.t 11) (.c (.int .i64 1))⟩,
           ⟨some 5, none, .mov (.t 12)⟩])
          (.seq
           (.block 2
            (.loop [0, 3, 4, 5]
             c32b0))
           c32r0))))
/-- tracebook/column.encodeRuns -/
def c32 : AFn := ⟨1, 44, [.t 2],
 (.seq
  (.reg [⟨some 2, none, .nilv 1⟩])
  (.seq
   (.reg [⟨some 6, none, .bslice true 1 [(.int .u8 0)] 1 [(0, (.c (.int .u8 1)))]⟩,
    ⟨some 3, none, .mov (.t 6)⟩])
   (.seq
    (.seq
     (.reg [⟨some 4, none, .mov (.c (.int .i64 0))⟩])
     (.block 0
      (.loop [0, 3, 4]
       c32b1)))
    (.seq
     (.reg [⟨some 43, none, .mov (.t 3)⟩,
      ⟨some 2, none, .mov (.t 43)⟩])
     .ret)))), none⟩
def k32 : List (List Nat) := [[0, 3, 4], [0, 3, 4, 5]]
def o32 : List Nat := [1000038, 1000039, 1000040, 1000041, 1000044, 1000049, 1000050, 1000056, 3000000, 6]
def c33b0 : AC := (.seq
          (.reg [⟨some 15, none, .bin .lss (.t 14) (.t 13)⟩])
          (.seq
           (.cond (.t 15)
            .skip
            (.exit 0))
           (.seq
            (.block 1
             (.seq
              (.reg [⟨some 16, none, .iaddr (.slice 3) (.t 12) (.t 14)⟩,
               ⟨some 17, none, .load 3 true (.t 16)⟩,
               ⟨some 8, none, .alloc [(.int .i64 0), (.int .i64 0), (.str [])]⟩,
               ⟨none, none, .store 3 (.t 8) (.t 17)⟩])
              (.seq
               (.seq
                (.reg [⟨some 18, none, .faddr 0 (.t 8)⟩,
                 ⟨some 19, none, .load 1 false (.t 18)⟩,
                 ⟨some 20, none, .bin .eql (.t 19) (.c (.int .i64 0))⟩])
                (.cond (.t 20)
                 (.seq
                  (.reg [⟨some 4, none, .mov (.c (.v (.slice none 0 0)))⟩])
                  .ret)
                 .skip))
               (.seq
                (.reg [⟨some 21, none, .mov (.t 5)⟩,
                 ⟨some 22, none, .faddr 1 (.t 8)⟩,
                 ⟨some 23, none, .load 1 false (.t 22)⟩,
                 ⟨some 24, none, .mov (.t 6)⟩,
                 ⟨some 25, none, .bin .sub (.t 23) (.t 24)⟩,
                 ⟨some 26, none, .call false 45 [(.c .nilS), (.t 25)]⟩,
                 ⟨some 27, none, .append 1 1 (.t 21) (.t 26)⟩,
                 ⟨some 5, none, .mov (.t 27)⟩])
                (.reg [⟨some 28, none, .faddr 1 (.t 8)⟩,
                 ⟨some 29, none, .load 1 false (.t 28)⟩,
                 ⟨some 6, none, .mov (.t 29)⟩])))))
            (.reg [⟨some 30, none, .bin .add (.t 14) (.c (.int .i64 1))⟩,
             ⟨some 14, none, .mov (.t 30)⟩]))))
/-- tracebook/column.encodeDifferences -/
def c33 : AFn := ⟨2, 32, [.t 4],
 (.seq
  (.reg [⟨some 4, none, .mov (.c (.v (.slice none 0 0)))⟩])
  (.seq
   (.seq
    (.reg [⟨some 9, none, .mov (.t 0)⟩,
     ⟨some 10, none, .bin .eql (.t 9) (.c (.int .i64 3))⟩])
    (.cond (.t 10)
     (.seq
      (.reg [⟨some 4, none, .mov (.c (.v (.slice none 0 0)))⟩])
      .ret)
     .skip))
   (.seq
    (.reg [⟨some 11, none, .bslice true 1 [(.int .u8 0)] 1 [(0, (.c (.int .u8 2)))]⟩,
     ⟨some 5, none, .mov (.t 11)⟩])
    (.seq
     (.reg [⟨some 6, none, .mov (.c (.int .i64 0))⟩])
     (.seq
      (.seq
       (.reg [⟨some 12, none, .mov (.t 1)⟩,
        ⟨some 13, none, .len (.t 12)⟩,
        ⟨some 14, none, .mov (.c (.int .i64 0))⟩])
       (.block 0
        (.loop [5, 6, 12, 13, 14]
         c33b0)))
      (.seq
       (.reg [⟨some 31, none, .mov (.t 5)⟩,
        ⟨some 4, none, .mov (.t 31)⟩])
       .ret)))))), none⟩
def k33 : List (List Nat) := [[5, 6, 12, 13, 14]]
def o33 : List Nat := [4000000, 1000038, 1000039, 1000040, 1000041, 1000044, 1000049, 1000050, 1000056, 3000000, 11]
def c34b0 : AC := (.seq
         (.reg [⟨some 14, none, .bin .lss (.t 13) (.t 12)⟩])
         (.seq
          (.cond (.t 14)
           .skip
           (.exit 0))
          (.seq
           (.block 1
            (.seq
             (.reg [⟨some 15, none, .iaddr (.slice 3) (.t 11) (.t 13)⟩,
              ⟨some 16, none, .load 3 true (.t 15)⟩,
              ⟨some 7, none, .alloc [(.int .i64 0), (.int .i64 0), (.str [])]⟩,
              ⟨none, none, .store 3 (.t 7) (.t 16)⟩])
             (.seq
              (.reg [⟨some 18, none, .mov (.t 3)⟩,
               ⟨some 19, none, .load 3 true (.t 7)⟩,
               ⟨some 20, none, .mget true [.i, .i, .s] true (.int .i64 0) (.t 18) (.t 19)⟩,
               ⟨some 17, none, .mov (.t 20)⟩,
               ⟨some 21, none, .ext (.t 17) 0⟩,
               ⟨some 22, none, .ext (.t 17) 1⟩,
               ⟨some 8, none, .mov (.t 21)⟩,
               ⟨some 9, none, .mov (.t 22)⟩])
              (.seq
               (.seq
                (.reg [⟨some 23, none, .mov (.t 9)⟩,
                 ⟨some 24, none, .un .not (.t 23)⟩])
                (.cond (.t 24)
                 (.seq
                  (.reg [⟨some 25, none, .mov (.t 3)⟩,
                   ⟨some 26, none, .lenM (.t 25)⟩,
                   ⟨some 8, none, .mov (.t 26)⟩])
                  (.seq
                   (.reg [⟨some 27, none, .mov (.t 3)⟩,
                    ⟨some 28, none, .load 3 true (.t 7)⟩,
                    ⟨some 29, none, .mov (.t 8)⟩,
                    ⟨none, none, .mset [.i, .i, .s] true (.t 27) (.t 28) (.t 29)⟩])
                   (.reg [⟨some 30, none, .mov (.t 4)⟩,
                    ⟨some 31, none, .load 3 true (.t 7)⟩,
                    ⟨some 32, none, .callS 44 [(.t 30), (.t 31)]⟩,
                    ⟨some 4, none, .mov (.t 32)⟩])))
                 .skip))
               (.reg [⟨some 33, none, .mov (.t 5)⟩,
                ⟨some 34, none, .mov (.t 8)⟩,
                ⟨some 35, none, .call false 45 [(.c .nilS), (.t 34)]⟩,
                ⟨some 36, none, .append 1 1 (.t 33) (.t 35)⟩,
                ⟨some 5, none, .mov (.t 36)⟩])))))
           (.reg [⟨some 37, none, .bin .add (.t 13) (.c (.int .i64 1))⟩,
            ⟨some 13, none, .mov (.t 37)⟩]))))
def c34r0 : AC := (.seq
      (.reg [⟨some 38, none, .bslice false 1 [(.int .u8 0)] 1 [(0, (.c (.int .u8 3)))]⟩,
       ⟨some 39, none, .mov (.t 3)⟩,
       ⟨some 40, none, .lenM (.t 39)⟩,
       ⟨some 41, none, .call false 45 [(.c .nilS), (.t 40)]⟩,
       ⟨some 42, none, .mov (.t 4)⟩,
       ⟨some 43, none, .mov (.t 5)⟩,
       ⟨some 44, none, .bslice false 1 [.nilS] 4 [(0, (.t 38)), (1, (.t 41)), (2, (.t 42)), (3, (.t 43))]⟩,
       ⟨some 45, none, .call true 46 [(.t 44)]⟩,
       ⟨some 2, none, .mov (.t 45)⟩])
      .ret)
/-- tracebook/column.encodeDictionary -/
def c34 : AFn := ⟨1, 46, [.t 2],
 (.seq
  (.reg [⟨some 2, none, .nilv 1⟩])
  (.seq
   (.reg [⟨some 10, none, .mkmap none⟩,
    ⟨some 3, none, .mov (.t 10)⟩])
   (.seq
    (.reg [⟨some 4, none, .nilv 1⟩,
     ⟨some 5, none, .nilv 1⟩])
    (.seq
     (.seq
      (.reg [⟨some 11, none, .mov (.t 0)⟩,
       ⟨some 12, none, .len (.t 11)⟩,
       ⟨some 13, none, .mov (.c (.int .i64 0))⟩])
      (.block 0
       (.loop [3, 4, 5, 11, 12, 13]
        c34b0)))
     c34r0)))), none⟩
def k34 : List (List Nat) := [[3, 4, 5, 11, 12, 13]]
def o34 : List Nat := [45, 1000038, 1000039, 1000040, 1000041, 1000044, 1000049, 1000050, 1000056, 3000000]
/-- tracebook/tracebookref33.one -/
def c35 : AFn := ⟨2, 31, [.t 4],
 (.seq
  (.reg [⟨some 3, none, .box (.t 1)⟩,
   ⟨some 4, none, .nilv 1⟩])
  (.seq
   (.reg [⟨some 5, none, .mov (.t 0)⟩,
    ⟨some 6, none, .faddr 0 (.t 3)⟩,
    ⟨some 7, none, .load 1 false (.t 6)⟩,
    ⟨some 8, none, .conv (.int .u8) (.t 7)⟩,
    ⟨some 9, none, .bslice false 1 [(.int .u8 0)] 1 [(0, (.t 8))]⟩,
    ⟨some 10, none, .append 1 1 (.t 5) (.t 9)⟩,
    ⟨some 0, none, .mov (.t 10)⟩])
   (.seq
    (.seq
     (.reg [⟨some 11, none, .faddr 0 (.t 3)⟩,
      ⟨some 12, none, .load 1 false (.t 11)⟩,
      ⟨some 13, none, .bin .eql (.t 12) (.c (.int .i64 1))⟩,
      ⟨some 14, none, .mov (.t 13)⟩,
      ⟨some 15, some (14, false), .faddr 0 (.t 3)⟩,
      ⟨some 16, some (14, false), .load 1 false (.t 15)⟩,
      ⟨some 17, some (14, false), .bin .eql (.t 16) (.c (.int .i64 2))⟩,
      ⟨some 18, none, .pick (.t 14) (.c (.bool true)) (.t 17)⟩])
     (.cond (.t 18)
      (.seq
       (.reg [⟨some 19, none, .mov (.t 0)⟩,
        ⟨some 20, none, .faddr 1 (.t 3)⟩,
        ⟨some 21, none, .load 1 false (.t 20)⟩,
        ⟨some 22, none, .call false 36 [(.t 19), (.t 21)]⟩,
        ⟨some 4, none, .mov (.t 22)⟩])
       .ret)
      .skip))
    (.seq
     (.seq
      (.reg [⟨some 23, none, .faddr 0 (.t 3)⟩,
       ⟨some 24, none, .load 1 false (.t 23)⟩,
       ⟨some 25, none, .bin .eql (.t 24) (.c (.int .i64 3))⟩])
      (.cond (.t 25)
       (.seq
        (.reg [⟨some 26, none, .mov (.t 0)⟩,
         ⟨some 27, none, .faddr 2 (.t 3)⟩,
         ⟨some 28, none, .load 1 false (.t 27)⟩,
         ⟨some 29, none, .call false 47 [(.t 26), (.t 28)]⟩,
         ⟨some 4, none, .mov (.t 29)⟩])
        .ret)
       .skip))
     (.seq
      (.reg [⟨some 30, none, .mov (.t 0)⟩,
       ⟨some 4, none, .mov (.t 30)⟩])
      .ret))))), none⟩
def k35 : List (List Nat) := []
def o35 : List Nat := [1000038, 1000039, 1000040, 1000041, 1000044, 1000049, 1000050, 1000056, 3000000]
def c36b0 : AC := (.seq
        (.seq
         (.reg [⟨some 12, none, .mov (.t 6)⟩,
          ⟨some 13, none, .bin .geq (.t 12) (.c (.int .u64 128))⟩])
         (.cond (.t 13)
          .skip
          (.exit 0)))
        (.block 1
         (.seq
          (.reg [⟨some 14, none, .mov (.t 5)⟩,
           ⟨some 15, none, .mov (.t 6)⟩,
           ⟨some 16, none, .bin .rem (.t 15) (.c (.int .u64 128))⟩,
           ⟨some 17, none, .conv (.int .u8) (.t 16)⟩,
           ⟨some 18, none, .bin .add (.t 17) (.c (.int .u8 128))⟩,
           ⟨some 19, none, .bslice false 1 [(.int .u8 0)] 1 [(0, (.t 18))]⟩,
           ⟨some 20, none, .append 1 1 (.t 14) (.t 19)⟩,
           ⟨some 5, none, .mov (.t 20)⟩])
          (.reg [⟨some 21, none, .mov (.t 6)⟩,
           ⟨some 22, none, .bin .quo (.t 21) (.c (.int .u64 128))⟩,
           ⟨some 6, none, .mov (.t 22)⟩]))))
/-- tracebook/tracebookref05.PutInt -/
def c36 : AFn := ⟨2, 29, [.t 4],
 (.seq
  (.reg [⟨some 4, none, .nilv 1⟩])
  (.seq
   (.reg [⟨some 7, none, .bslice true 1 [(.int .u8 0)] 0 []⟩,
    ⟨some 8, none, .mov (.t 0)⟩,
    ⟨some 9, none, .append 1 1 (.t 7) (.t 8)⟩,
    ⟨some 5, none, .mov (.t 9)⟩])
   (.seq
    (.reg [⟨some 10, none, .mov (.t 1)⟩,
     ⟨some 11, none, .call false 48 [(.t 10)]⟩,
     ⟨some 6, none, .mov (.t 11)⟩])
    (.seq
     (.block 0
      (.loop [5, 6]
       c36b0))
     (.seq
      (.reg [⟨some 23, none, .mov (.t 5)⟩,
       ⟨some 24, none, .mov (.t 6)⟩,
       ⟨some 25, none, .conv (.int .u8) (.t 24)⟩,
       ⟨some 26, none, .bslice false 1 [(.int .u8 0)] 1 [(0, (.t 25))]⟩,
       ⟨some 27, none, .append 1 1 (.t 23) (.t 26)⟩,
       ⟨some 5, none, .mov (.t 27)⟩])
      (.seq
       (.reg [⟨some 28, none, .mov (.t 5)⟩,
        ⟨some 4, none, .mov (.t 28)⟩])
       .ret)))))), none⟩
def k36 : List (List Nat) := [[5, 6]]
def o36 : List Nat := [1000038, 1000039, 1000040, 1000041, 1000044, 1000049, 1000050, 1000056, 3000000, 7]
def c37b0 : AC := (.seq
       (.seq
        (.reg [⟨some 6, none, .mov (.t 5)⟩,
         ⟨some 7, none, .mov (.t 0)⟩,
         ⟨some 8, none, .len (.t 7)⟩,
         ⟨some 9, none, .bin .lss (.t 6) (.t 8)⟩])
        (.cond (.t 9)
         .skip
         (.exit 0)))
       (.seq
        (.block 1
         (.seq
          (.reg [⟨some 12, none, .mov (.t 0)⟩,
           ⟨some 13, none, .mov (.t 5)⟩,
           ⟨some 14, none, .iaddr (.slice 3) (.t 12) (.t 13)⟩,
           ⟨some 15, none, .load 3 true (.t 14)⟩,
           ⟨some 16, none, .load 3 true (.t 3)⟩,
           ⟨some 17, none, .beqA false [.i, .i, .s] (.t 15) (.t 16)⟩])
          (.cond (.t 17)
           (.seq
            (.reg [⟨some 18, none, .mov (.t 5)⟩,
             ⟨some 4, none, .mov (.t 18)⟩])
            .ret)
           .skip)))
        (.reg [⟨some 10, none, .mov (.t 5)⟩,
         ⟨some 11, none, .bin .add (.t 10) (.c (.int .i64 1))⟩,
         ⟨some 5, none, .mov (.t 11)⟩])))
/-- tracebook/tracebookref33.at -/
def c37 : AFn := ⟨2, 19, [.t 4],
 (.seq
  (.reg [⟨some 3, none, .box (.t 1)⟩,
   ⟨some 4, none, .mov (.c (.int .i64 0))⟩])
  (.seq
   (.seq
    (.reg [⟨some 5, none, .mov (.c (.int .i64 0))⟩])
    (.block 0
     (.loop [0, 3, 5]
      c37b0)))
   (.seq
    (.reg [⟨some 4, none, .mov (.c (.int .i64 (-1)))⟩])
    .ret))), none⟩
def k37 : List (List Nat) := [[0, 3, 5]]
def o37 : List Nat := [1000038, 1000039, 1000040, 1000041, 1000044, 1000049, 1000050, 1000056, 3000000]
def c38b0 : AC := (.seq
       (.seq
        (.reg [⟨some 6, none, .mov (.t 5)⟩,
         ⟨some 7, none, .len (.t 6)⟩,
         ⟨some 8, none, .mov (.t 1)⟩,
         ⟨some 9, none, .bin .lss (.t 7) (.t 8)⟩,
         ⟨some 10, none, .mov (.t 9)⟩,
         ⟨some 11, some (10, true), .mov (.t 0)⟩,
         ⟨some 12, some (10, true), .nilck (.t 11)⟩,
         ⟨some 13, some (10, true), .faddr 1 (.t 12)⟩,
         ⟨some 14, some (10, true), .load 1 false (.t 13)⟩,
         ⟨some 15, some (10, true), .un .not (.t 14)⟩,
         ⟨some 16, none, .pick (.t 10) (.t 15) (.c (.bool false))⟩])
        (.cond (.t 16)
         .skip
         (.exit 0)))
       (.block 1
        (.reg [⟨some 17, none, .mov (.t 5)⟩,
         ⟨some 18, none, .mov (.t 0)⟩,
         ⟨some 19, none, .callS 49 [(.t 18)]⟩,
         ⟨some 20, none, .bslice false 3 [(.int .i64 0), (.int .i64 0), (.str [])] 1 [(0, (.t 19))]⟩,
         ⟨some 21, none, .append 3 32 (.t 17) (.t 20)⟩,
         ⟨some 5, none, .mov (.t 21)⟩])))
/-- (*tracebook/column.reader).plain -/
def c38 : AFn := ⟨2, 23, [.t 4],
 (.seq
  (.reg [⟨some 4, none, .nilv 3⟩])
  (.seq
   (.reg [⟨some 5, none, .nilv 3⟩])
   (.seq
    (.block 0
     (.loop [0, 1, 5]
      c38b0))
    (.seq
     (.reg [⟨some 22, none, .mov (.t 5)⟩,
      ⟨some 4, none, .mov (.t 22)⟩])
     .ret)))), none⟩
def k38 : List (List Nat) := [[0, 1, 5]]
def o38 : List Nat := [1000038, 1000039, 1000040, 1000041, 1000044, 1000049, 1000050, 1000056, 3000000]
def c39b0 : AC := (.seq
               (.reg [⟨some 38, none, .bin .lss (.t 37) (.t 36)⟩])
               (.seq
                (.cond (.t 38)
                 .skip
                 (.exit 2))
                (.seq
                 (.block 3
                  (.reg [⟨some 39, none, .mov (.t 5)⟩,
                   ⟨some 40, none, .load 3 true (.t 7)⟩,
                   ⟨some 41, none, .bslice false 3 [(.int .i64 0), (.int .i64 0), (.str [])] 1 [(0, (.t 40))]⟩,
                   ⟨some 42, none, .append 3 32 (.t 39) (.t 41)⟩,
                   ⟨some 5, none, .mov (.t 42)⟩]))
                 (.reg [⟨some 43, none, .bin .add (.t 37) (.c (.int .i64 1))⟩,
                  ⟨some 37, none, .mov (.t 43)⟩]))))
def c39b1 : AC := (.seq
       (.seq
        (.reg [⟨some 8, none, .mov (.t 5)⟩,
         ⟨some 9, none, .len (.t 8)⟩,
         ⟨some 10, none, .mov (.t 1)⟩,
         ⟨some 11, none, .bin .lss (.t 9) (.t 10)⟩,
         ⟨some 12, none, .mov (.t 11)⟩,
         ⟨some 13, some (12, true), .mov (.t 0)⟩,
         ⟨some 14, some (12, true), .nilck (.t 13)⟩,
         ⟨some 15, some (12, true), .faddr 1 (.t 14)⟩,
         ⟨some 16, some (12, true), .load 1 false (.t 15)⟩,
         ⟨some 17, some (12, true), .un .not (.t 16)⟩,
         ⟨some 18, none, .pick (.t 12) (.t 17) (.c (.bool false))⟩])
        (.cond (.t 18)
         .skip
         (.exit 0)))
       (.block 1
        (.seq
         (.reg [⟨some 19, none, .mov (.t 0)⟩,
          ⟨some 20, none, .callS 50 [(.t 19)]⟩,
          ⟨some 6, none, .mov (.t 20)⟩])
         (.seq
          (.reg [⟨some 21, none, .mov (.t 0)⟩,
           ⟨some 22, none, .callS 49 [(.t 21)]⟩,
           ⟨some 7, none, .alloc [(.int .i64 0), (.int .i64 0), (.str [])]⟩,
           ⟨none, none, .store 3 (.t 7) (.t 22)⟩])
          (.seq
           (.seq
            (.reg [⟨some 23, none, .mov (.t 6)⟩,
             ⟨some 24, none, .bin .lss (.t 23) (.c (.int .i64 1))⟩,
             ⟨some 25, none, .mov (.t 24)⟩,
             ⟨some 26, some (25, false), .mov (.t 6)⟩,
             ⟨some 27, some (25, false), .mov (.t 1)⟩,
             ⟨some 28, some (25, false), .mov (.t 5)⟩,
             ⟨some 29, some (25, false), .len (.t 28)⟩,
             ⟨some 30, some (25, false), .bin .sub (.t 27) (.t 29)⟩,
             ⟨some 31, some (25, false), .bin .gtr (.t 26) (.t 30)⟩,
             ⟨some 32, none, .pick (.t 25) (.c (.bool true)) (.t 31)⟩])
            (.cond (.t 32)
             (.seq
              (.reg [⟨some 33, none, .mov (.t 0)⟩,
               ⟨some 34, none, .nilck (.t 33)⟩,
               ⟨some 35, none, .faddr 1 (.t 34)⟩,
               ⟨none, none, .store 1 (.t 35) (.c (.bool true))⟩])
              (.seq
               (.reg [⟨some 4, none, .nilv 3⟩])
               .ret))
             .skip))
           (.seq
            (.reg [⟨some 36, none, .mov (.t 6)⟩,
             ⟨some 37, none, .mov (.c (.int .i64 0))⟩])
            (.block 2
             (.loop [0, 1, 5, 7, 36, 37]
              c39b0))))))))
/-- (*tracebook/column.reader).runs -/
def c39 : AFn := ⟨2, 45, [.t 4],
 (.seq
  (.reg [⟨some 4, none, .nilv 3⟩])
  (.seq
   (.reg [⟨some 5, none, .nilv 3⟩])
   (.seq
    (.block 0
     (.loop [0, 1, 5]
      c39b1))
    (.seq
     (.reg [⟨some 44, none, .mov (.t 5)⟩,
      ⟨some 4, none, .mov (.t 44)⟩])
     .ret)))), none⟩
def k39 : List (List Nat) := [[0, 1, 5], [0, 1, 5, 7, 36, 37]]
def o39 : List Nat := [1000038, 1000039, 1000040, 1000041, 1000044, 1000049, 1000050, 1000056, 3000000]
def c40b0 : AC := (.seq
        (.seq
         (.reg [⟨some 9, none, .mov (.t 7)⟩,
          ⟨some 10, none, .len (.t 9)⟩,
          ⟨some 11, none, .mov (.t 2)⟩,
          ⟨some 12, none, .bin .lss (.t 10) (.t 11)⟩,
          ⟨some 13, none, .mov (.t 12)⟩,
          ⟨some 14, some (13, true), .mov (.t 0)⟩,
          ⟨some 15, some (13, true), .nilck (.t 14)⟩,
          ⟨some 16, some (13, true), .faddr 1 (.t 15)⟩,
          ⟨some 17, some (13, true), .load 1 false (.t 16)⟩,
          ⟨some 18, some (13, true), .un .not (.t 17)⟩,
          ⟨some 19, none, .pick (.t 13) (.t 18) (.c (.bool false))⟩])
         (.cond (.t 19)
          .skip
          (.exit 0)))
        (.block 1
         (.seq
          (.reg [⟨some 20, none, .mov (.t 8)⟩,
           ⟨some 21, none, .mov (.t 0)⟩,
           ⟨some 22, none, .callS 50 [(.t 21)]⟩,
           ⟨some 23, none, .bin .add (.t 20) (.t 22)⟩,
           ⟨some 8, none, .mov (.t 23)⟩])
          (.reg [⟨some 24, none, .mov (.t 7)⟩,
           ⟨some 25, none, .mov (.t 1)⟩,
           ⟨some 26, none, .mov (.t 8)⟩,
           ⟨some 27, none, .build [(.int .i64 0), (.int .i64 0), (.str [])] [(0, 1, (.t 25)), (1, 1, (.t 26))]⟩,
           ⟨some 28, none, .bslice false 3 [(.int .i64 0), (.int .i64 0), (.str [])] 1 [(0, (.t 27))]⟩,
           ⟨some 29, none, .append 3 32 (.t 24) (.t 28)⟩,
           ⟨some 7, none, .mov (.t 29)⟩]))))
/-- (*tracebook/column.reader).differences -/
def c40 : AFn := ⟨3, 31, [.t 6],
 (.seq
  (.reg [⟨some 6, none, .nilv 3⟩])
  (.seq
   (.reg [⟨some 7, none, .nilv 3⟩])
   (.seq
    (.reg [⟨some 8, none, .mov (.c (.int .i64 0))⟩])
    (.seq
     (.block 0
      (.loop [0, 1, 2, 7, 8]
       c40b0))
     (.seq
      (.reg [⟨some 30, none, .mov (.t 7)⟩,
       ⟨some 6, none, .mov (.t 30)⟩])
      .ret))))), none⟩
def k40 : List (List Nat) := [[0, 1, 2, 7, 8]]
def o40 : List Nat := [1000038, 1000039, 1000040, 1000041, 1000044, 1000049, 1000050, 1000056, 3000000]
def c41b0 : AC := (.seq
           (.seq
            (.reg [⟨some 33, none, .mov (.t 7)⟩,
             ⟨some 34, none, .len (.t 33)⟩,
             ⟨some 35, none, .mov (.t 1)⟩,
             ⟨some 36, none, .bin .lss (.t 34) (.t 35)⟩,
             ⟨some 37, none, .mov (.t 36)⟩,
             ⟨some 38, some (37, true), .mov (.t 0)⟩,
             ⟨some 39, some (37, true), .nilck (.t 38)⟩,
             ⟨some 40, some (37, true), .faddr 1 (.t 39)⟩,
             ⟨some 41, some (37, true), .load 1 false (.t 40)⟩,
             ⟨some 42, some (37, true), .un .not (.t 41)⟩,
             ⟨some 43, none, .pick (.t 37) (.t 42) (.c (.bool false))⟩])
            (.cond (.t 43)
             .skip
             (.exit 2)))
           (.block 3
            (.seq
             (.reg [⟨some 44, none, .mov (.t 0)⟩,
              ⟨some 45, none, .callS 50 [(.t 44)]⟩,
              ⟨some 8, none, .mov (.t 45)⟩])
             (.seq
              (.seq
               (.reg [⟨some 46, none, .mov (.t 8)⟩,
                ⟨some 47, none, .bin .lss (.t 46) (.c (.int .i64 0))⟩,
                ⟨some 48, none, .mov (.t 47)⟩,
                ⟨some 49, some (48, false), .mov (.t 8)⟩,
                ⟨some 50, some (48, false), .mov (.t 5)⟩,
                ⟨some 51, some (48, false), .len (.t 50)⟩,
                ⟨some 52, some (48, false), .bin .geq (.t 49) (.t 51)⟩,
                ⟨some 53, none, .pick (.t 48) (.c (.bool true)) (.t 52)⟩])
               (.cond (.t 53)
                (.seq
                 (.reg [⟨some 54, none, .mov (.t 0)⟩,
                  ⟨some 55, none, .nilck (.t 54)⟩,
                  ⟨some 56, none, .faddr 1 (.t 55)⟩,
                  ⟨none, none, .store 1 (.t 56) (.c (.bool true))⟩])
                 (.seq
                  (.reg [⟨some 4, none, .nilv 3⟩])
                  .ret))
                .skip))
              (.reg [⟨some 57, none, .mov (.t 7)⟩,
               ⟨some 58, none, .mov (.t 5)⟩,
               ⟨some 59, none, .mov (.t 8)⟩,
               ⟨some 60, none, .iaddr (.slice 3) (.t 58) (.t 59)⟩,
               ⟨some 61, none, .load 3 true (.t 60)⟩,
               ⟨some 62, none, .bslice false 3 [(.int .i64 0), (.int .i64 0), (.str [])] 1 [(0, (.t 61))]⟩,
               ⟨some 63, none, .append 3 32 (.t 57) (.t 62)⟩,
               ⟨some 7, none, .mov (.t 63)⟩])))))
def c41b1 : AC := (.seq
         (.seq
          (.reg [⟨some 17, none, .mov (.t 5)⟩,
           ⟨some 18, none, .len (.t 17)⟩,
           ⟨some 19, none, .mov (.t 6)⟩,
           ⟨some 20, none, .bin .lss (.t 18) (.t 19)⟩,
           ⟨some 21, none, .mov (.t 20)⟩,
           ⟨some 22, some (21, true), .mov (.t 0)⟩,
           ⟨some 23, some (21, true), .nilck (.t 22)⟩,
           ⟨some 24, some (21, true), .faddr 1 (.t 23)⟩,
           ⟨some 25, some (21, true), .load 1 false (.t 24)⟩,
           ⟨some 26, some (21, true), .un .not (.t 25)⟩,
           ⟨some 27, none, .pick (.t 21) (.t 26) (.c (.bool false))⟩])
          (.cond (.t 27)
           .skip
           (.exit 0)))
         (.block 1
          (.reg [⟨some 28, none, .mov (.t 5)⟩,
           ⟨some 29, none, .mov (.t 0)⟩,
           ⟨some 30, none, .callS 49 [(.t 29)]⟩,
           ⟨some 31, none, .bslice false 3 [(.int .i64 0), (.int .i64 0), (.str [])] 1 [(0, (.t 30))]⟩,
           ⟨some 32, none, .append 3 32 (.t 28) (.t 31)⟩,
           ⟨some 5, none, .mov (.t 32)⟩])))
def c41r0 : AC := (.seq
       (.reg [⟨some 7, none, .nilv 3⟩])
       (.seq
        (.block 2
         (.loop [0, 1, 5, 7]
          c41b0))
        (.seq
         (.reg [⟨some 64, none, .mov (.t 7)⟩,
          ⟨some 4, none, .mov (.t 64)⟩])
         .ret)))
/-- (*tracebook/column.reader).dictionary -/
def c41 : AFn := ⟨2, 65, [.t 4],
 (.seq
  (.reg [⟨some 4, none, .nilv 3⟩])
  (.seq
   (.reg [⟨some 5, none, .nilv 3⟩])
   (.seq
    (.reg [⟨some 9, none, .mov (.t 0)⟩,
     ⟨some 10, none, .callS 50 [(.t 9)]⟩,
     ⟨some 6, none, .mov (.t 10)⟩])
    (.seq
     (.seq
      (.reg [⟨some 11, none, .mov (.t 6)⟩,
       ⟨some 12, none, .mov (.t 1)⟩,
       ⟨some 13, none, .bin .gtr (.t 11) (.t 12)⟩])
      (.cond (.t 13)
       (.reg [⟨some 14, none, .mov (.t 0)⟩,
        ⟨some 15, none, .nilck (.t 14)⟩,
        ⟨some 16, none, .faddr 1 (.t 15)⟩,
        ⟨none, none, .store 1 (.t 16) (.c (.bool true))⟩])
       .skip))
     (.seq
      (.block 0
       (.loop [0, 1, 5, 6]
        c41b1))
      c41r0))))), none⟩
def k41 : List (List Nat) := [[0, 1, 5, 6], [0, 1, 5, 7]]
def o41 : List Nat := [1000038, 1000039, 1000040, 1000041, 1000044, 1000049, 1000050, 1000056, 3000000]
def c42b0 : AC := (.seq
         (.seq
          (.reg [⟨some 9, none, .mov (.t 7)⟩,
           ⟨some 10, none, .bin .lss (.t 9) (.c (.int .i64 10))⟩])
          (.cond (.t 10)
           .skip
           (.exit 0)))
         (.seq
          (.block 1
           (.seq
            (.seq
             (.reg [⟨some 13, none, .mov (.t 7)⟩,
              ⟨some 14, none, .mov (.t 0)⟩,
              ⟨some 15, none, .len (.t 14)⟩,
              ⟨some 16, none, .bin .geq (.t 13) (.t 15)⟩])
             (.cond (.t 16)
              (.seq
               (.reg [⟨some 2, none, .mov (.c (.int .i64 0))⟩,
                ⟨some 3, none, .mov (.c (.int .i64 0))⟩,
                ⟨some 4, none, .mov (.c (.int .i64 8))⟩])
               .ret)
              .skip))
            (.seq
             (.reg [⟨some 17, none, .mov (.t 0)⟩,
              ⟨some 18, none, .mov (.t 7)⟩,
              ⟨some 19, none, .iaddr (.slice 1) (.t 17) (.t 18)⟩,
              ⟨some 20, none, .load 1 false (.t 19)⟩,
              ⟨some 21, none, .conv (.int .u64) (.t 20)⟩,
              ⟨some 8, none, .mov (.t 21)⟩])
             (.seq
              (.seq
               (.reg [⟨some 22, none, .mov (.t 7)⟩,
                ⟨some 23, none, .bin .eql (.t 22) (.c (.int .i64 9))⟩,
                ⟨some 24, none, .mov (.t 23)⟩,
                ⟨some 25, some (24, true), .mov (.t 8)⟩,
                ⟨some 26, some (24, true), .bin .gtr (.t 25) (.c (.int .u64 1))⟩,
                ⟨some 27, none, .pick (.t 24) (.t 26) (.c (.bool false))⟩])
               (.cond (.t 27)
                (.seq
                 (.reg [⟨some 2, none, .mov (.c (.int .i64 0))⟩,
                  ⟨some 3, none, .mov (.c (.int .i64 0))⟩,
                  ⟨some 4, none, .mov (.c (.int .i64 10))⟩])
                 .ret)
                .skip))
              (.seq
               (.reg [⟨some 28, none, .mov (.t 5)⟩,
                ⟨some 29, none, .mov (.t 8)⟩,
                ⟨some 30, none, .bin .rem (.t 29) (.c (.int .u64 128))⟩,
                ⟨some 31, none, .mov (.t 6)⟩,
                ⟨some 32, none, .bin .mul (.t 30) (.t 31)⟩,
                ⟨some 33, none, .bin .add (.t 28) (.t 32)⟩,
                ⟨some 5, none, .mov (.t 33)⟩])
               (.seq
                (.reg [⟨some 34, none, .mov (.t 6)⟩,
                 ⟨some 35, none, .bin .mul (.t 34) (.c (.int .u64 128))⟩,
                 ⟨some 6, none, .mov (.t 35)⟩])
                (.seq
                 (.seq
                  (.reg [⟨some 36, none, .mov (.t 8)⟩,
                   ⟨some 37, none, .bin .lss (.t 36) (.c (.int .u64 128))⟩,
                   ⟨some 38, none, .mov (.t 37)⟩,
                   ⟨some 39, some (38, true), .mov (.t 8)⟩,
                   ⟨some 40, some (38, true), .bin .eql (.t 39) (.c (.int .u64 0))⟩,
                   ⟨some 41, none, .pick (.t 38) (.t 40) (.c (.bool false))⟩,
                   ⟨some 42, none, .mov (.t 41)⟩,
                   ⟨some 43, some (42, true), .mov (.t 7)⟩,
                   ⟨some 44, some (42, true), .bin .gtr (.t 43) (.c (.int .i64 0))⟩,
                   ⟨some 45, none, .pick (.t 42) (.t 44) (.c (.bool false))⟩])
                  (.cond (.t 45)
                   (.seq
                    (.reg [⟨some 2, none, .mov (.c (.int .i64 0))⟩,
                     ⟨some 3, none, .mov (.c (.int .i64 0))⟩,
                     ⟨some 4, none, .mov (.c (.int .i64 10))⟩])
                    .ret)
                   .skip))
                 (.seq
                  (.reg [⟨some 46, none, .mov (.t 8)⟩,
                   ⟨some 47, none, .bin .lss (.t 46) (.c (.int .u64 128))⟩])
                  (.cond (.t 47)
                   (.seq
                    (.reg [⟨some 48, none, .mov (.t 5)⟩,
                     ⟨some 49, none, .call false 51 [(.t 48)]⟩,
                     ⟨some 50, none, .mov (.t 7)⟩,
                     ⟨some 51, none, .bin .add (.t 50) (.c (.int .i64 1))⟩,
                     ⟨some 2, none, .mov (.t 49)⟩,
                     ⟨some 3, none, .mov (.t 51)⟩,
                     ⟨some 4, none, .mov (.c (.int .i64 0))⟩])
                    .ret)
                   .skip)))))))))
          (.reg [⟨some 11, none, .mov (.t 7)⟩,
           ⟨some 12, none, .bin .add (.t 11) (.c (.int .i64 1))⟩,
           ⟨some 7, none, .mov (.t 12)⟩])))
/-- tracebook/tracebookref05.Int -/
def c42 : AFn := ⟨1, 52, [.t 2, .t 3, .t 4],
 (.seq
  (.reg [⟨some 2, none, .mov (.c (.int .i64 0))⟩,
   ⟨some 3, none, .mov (.c (.int .i64 0))⟩,
   ⟨some 4, none, .mov (.c (.int .i64 0))⟩])
  (.seq
   (.reg [⟨some 5, none, .mov (.c (.int .u64 0))⟩])
   (.seq
    (.reg [⟨some 6, none, .mov (.c (.int .u64 1))⟩])
    (.seq
     (.seq
      (.reg [⟨some 7, none, .mov (.c (.int .i64 0))⟩])
      (.block 0
       (.loop [0, 5, 6, 7]
        c42b0)))
     (.seq
      (.reg [⟨some 2, none, .mov (.c (.int .i64 0))⟩,
       ⟨some 3, none, .mov (.c (.int .i64 0))⟩,
       ⟨some 4, none, .mov (.c (.int .i64 10))⟩])
      .ret))))), none⟩
def k42 : List (List Nat) := [[0, 5, 6, 7]]
def o42 : List Nat := [1000038, 1000039, 1000040, 1000041, 1000044, 1000049, 1000050, 1000056, 3000000]
/-- tracebook/tracebookref33.value -/
def c43 : AFn := ⟨1, 63, [.c 2 3 true, .t 3],
 (.seq
  (.reg [⟨some 2, none, .alloc [(.int .i64 0), (.int .i64 0), (.str [])]⟩,
   ⟨some 3, none, .mov (.c (.int .i64 0))⟩])
  (.seq
   (.seq
    (.reg [⟨some 11, none, .mov (.t 0)⟩,
     ⟨some 12, none, .len (.t 11)⟩,
     ⟨some 13, none, .bin .eql (.t 12) (.c (.int .i64 0))⟩,
     ⟨some 14, none, .mov (.t 13)⟩,
     ⟨some 15, some (14, false), .mov (.t 0)⟩,
     ⟨some 16, some (14, false), .iaddr (.slice 1) (.t 15) (.c (.int .i64 0))⟩,
     ⟨some 17, some (14, false), .load 1 false (.t 16)⟩,
     ⟨some 18, some (14, false), .bin .gtr (.t 17) (.c (.int .u8 3))⟩,
     ⟨some 19, none, .pick (.t 14) (.c (.bool true)) (.t 18)⟩])
    (.cond (.t 19)
     (.seq
      (.reg [⟨some 20, none, .build [(.int .i64 0), (.int .i64 0), (.str [])] []⟩,
       ⟨none, none, .store 3 (.t 2) (.t 20)⟩,
       ⟨some 3, none, .mov (.c (.int .i64 0))⟩])
      .ret)
     .skip))
   (.seq
    (.reg [⟨some 21, none, .mov (.t 0)⟩,
     ⟨some 22, none, .iaddr (.slice 1) (.t 21) (.c (.int .i64 0))⟩,
     ⟨some 23, none, .load 1 false (.t 22)⟩,
     ⟨some 24, none, .conv (.int .i64) (.t 23)⟩,
     ⟨some 25, none, .build [(.int .i64 0), (.int .i64 0), (.str [])] [(0, 1, (.t 24))]⟩,
     ⟨some 4, none, .alloc [(.int .i64 0), (.int .i64 0), (.str [])]⟩,
     ⟨none, none, .store 3 (.t 4) (.t 25)⟩])
    (.seq
     (.seq
      (.reg [⟨some 26, none, .faddr 0 (.t 4)⟩,
       ⟨some 27, none, .load 1 false (.t 26)⟩,
       ⟨some 28, none, .bin .eql (.t 27) (.c (.int .i64 0))⟩])
      (.cond (.t 28)
       (.seq
        (.reg [⟨some 29, none, .load 3 true (.t 4)⟩,
         ⟨none, none, .store 3 (.t 2) (.t 29)⟩,
         ⟨some 3, none, .mov (.c (.int .i64 1))⟩])
        .ret)
       .skip))
     (.seq
      (.seq
       (.reg [⟨some 30, none, .faddr 0 (.t 4)⟩,
        ⟨some 31, none, .load 1 false (.t 30)⟩,
        ⟨some 32, none, .bin .eql (.t 31) (.c (.int .i64 3))⟩])
       (.cond (.t 32)
        (.seq
         (.reg [⟨some 34, none, .mov (.t 0)⟩,
          ⟨some 35, none, .slc (.slice 1) (.t 34) (some (.c (.int .i64 1))) none none⟩,
          ⟨some 36, none, .call false 52 [(.t 35), (.c (.int .i64 200))]⟩,
          ⟨some 33, none, .mov (.t 36)⟩,
          ⟨some 37, none, .ext (.t 33) 0⟩,
          ⟨some 38, none, .ext (.t 33) 1⟩,
          ⟨some 39, none, .ext (.t 33) 2⟩,
          ⟨some 5, none, .mov (.t 37)⟩,
          ⟨some 6, none, .mov (.t 38)⟩,
          ⟨some 7, none, .mov (.t 39)⟩])
         (.seq
          (.reg [⟨some 40, none, .mov (.t 5)⟩,
           ⟨some 41, none, .faddr 2 (.t 4)⟩,
           ⟨none, none, .store 1 (.t 41) (.t 40)⟩])
          (.seq
           (.seq
            (.reg [⟨some 42, none, .mov (.t 7)⟩,
             ⟨some 43, none, .bin .neq (.t 42) (.c (.int .i64 0))⟩])
            (.cond (.t 43)
             (.seq
              (.reg [⟨some 44, none, .build [(.int .i64 0), (.int .i64 0), (.str [])] []⟩,
               ⟨none, none, .store 3 (.t 2) (.t 44)⟩,
               ⟨some 3, none, .mov (.c (.int .i64 0))⟩])
              .ret)
             .skip))
           (.seq
            (.reg [⟨some 45, none, .load 3 true (.t 4)⟩,
             ⟨some 46, none, .mov (.t 6)⟩,
             ⟨some 47, none, .bin .add (.t 46) (.c (.int .i64 1))⟩,
             ⟨none, none, .store 3 (.t 2) (.t 45)⟩,
             ⟨some 3, none, .mov (.t 47)⟩])
            .ret))))
        .skip))
      (.seq
       (.reg [⟨some 49, none, .mov (.t 0)⟩,
        ⟨some 50, none, .slc (.slice 1) (.t 49) (some (.c (.int .i64 1))) none none⟩,
        ⟨some 51, none, .call false 42 [(.t 50)]⟩,
        ⟨some 48, none, .mov (.t 51)⟩,
        ⟨some 52, none, .ext (.t 48) 0⟩,
        ⟨some 53, none, .ext (.t 48) 1⟩,
        ⟨some 54, none, .ext (.t 48) 2⟩,
        ⟨some 8, none, .mov (.t 52)⟩,
        ⟨some 9, none, .mov (.t 53)⟩,
        ⟨some 10, none, .mov (.t 54)⟩])
       (.seq
        (.reg [⟨some 55, none, .mov (.t 8)⟩,
         ⟨some 56, none, .faddr 1 (.t 4)⟩,
         ⟨none, none, .store 1 (.t 56) (.t 55)⟩])
        (.seq
         (.seq
          (.reg [⟨some 57, none, .mov (.t 10)⟩,
           ⟨some 58, none, .bin .neq (.t 57) (.c (.int .i64 0))⟩])
          (.cond (.t 58)
           (.seq
            (.reg [⟨some 59, none, .build [(.int .i64 0), (.int .i64 0), (.str [])] []⟩,
             ⟨none, none, .store 3 (.t 2) (.t 59)⟩,
             ⟨some 3, none, .mov (.c (.int .i64 0))⟩])
            .ret)
           .skip))
         (.seq
          (.reg [⟨some 60, none, .load 3 true (.t 4)⟩,
           ⟨some 61, none, .mov (.t 9)⟩,
           ⟨some 62, none, .bin .add (.t 61) (.c (.int .i64 1))⟩,
           ⟨none, none, .store 3 (.t 2) (.t 60)⟩,
           ⟨some 3, none, .mov (.t 62)⟩])
          .ret))))))))), none⟩
def k43 : List (List Nat) := []
def o43 : List Nat := [1000038, 1000039, 1000040, 1000041, 1000044, 1000049, 1000050, 1000056, 3000000]
/-- tracebook/column.valueBytes -/
def c44 : AFn := ⟨2, 29, [.t 4],
 (.seq
  (.reg [⟨some 3, none, .box (.t 1)⟩,
   ⟨some 4, none, .nilv 1⟩])
  (.seq
   (.reg [⟨some 5, none, .mov (.t 0)⟩,
    ⟨some 6, none, .faddr 0 (.t 3)⟩,
    ⟨some 7, none, .load 1 false (.t 6)⟩,
    ⟨some 8, none, .conv (.int .u8) (.t 7)⟩,
    ⟨some 9, none, .bslice false 1 [(.int .u8 0)] 1 [(0, (.t 8))]⟩,
    ⟨some 10, none, .append 1 1 (.t 5) (.t 9)⟩,
    ⟨some 0, none, .mov (.t 10)⟩])
   (.seq
    (.seq
     (.reg [⟨some 11, none, .faddr 0 (.t 3)⟩,
      ⟨some 12, none, .load 1 false (.t 11)⟩])
     (.block 0
      (.seq
       (.seq
        (.reg [⟨some 14, none, .bin .eql (.t 12) (.c (.int .i64 1))⟩,
         ⟨some 13, none, .mov (.t 14)⟩])
        (.cond (.t 13)
         .skip
         (.reg [⟨some 15, none, .bin .eql (.t 12) (.c (.int .i64 2))⟩,
          ⟨some 13, none, .mov (.t 15)⟩])))
       (.cond (.t 13)
        (.seq
         (.reg [⟨some 16, none, .mov (.t 0)⟩,
          ⟨some 17, none, .faddr 1 (.t 3)⟩,
          ⟨some 18, none, .load 1 false (.t 17)⟩,
          ⟨some 19, none, .call false 45 [(.c .nilS), (.t 18)]⟩,
          ⟨some 20, none, .append 1 1 (.t 16) (.t 19)⟩,
          ⟨some 4, none, .mov (.t 20)⟩])
         .ret)
        (.seq
         (.reg [⟨some 22, none, .bin .eql (.t 12) (.c (.int .i64 3))⟩,
          ⟨some 21, none, .mov (.t 22)⟩])
         (.cond (.t 21)
          (.seq
           (.reg [⟨some 23, none, .mov (.t 0)⟩,
            ⟨some 24, none, .faddr 2 (.t 3)⟩,
            ⟨some 25, none, .load 1 false (.t 24)⟩,
            ⟨some 26, none, .call false 53 [(.c .nilS), (.t 25)]⟩,
            ⟨some 27, none, .append 1 1 (.t 23) (.t 26)⟩,
            ⟨some 4, none, .mov (.t 27)⟩])
           .ret)
          .skip))))))
    (.seq
     (.reg [⟨some 28, none, .mov (.t 0)⟩,
      ⟨some 4, none, .mov (.t 28)⟩])
     .ret)))), none⟩
def k44 : List (List Nat) := []
def o44 : List Nat := [1000038, 1000039, 1000040, 1000041, 1000044, 1000049, 1000050, 1000056, 3000000]
def c45b0 : AC := (.seq
         (.seq
          (.reg [⟨some 15, none, .mov (.t 5)⟩,
           ⟨some 16, none, .bin .geq (.t 15) (.c (.int .u64 128))⟩])
          (.cond (.t 16)
           .skip
           (.exit 0)))
         (.block 1
          (.seq
           (.reg [⟨some 17, none, .mov (.t 7)⟩,
            ⟨some 18, none, .mov (.t 5)⟩,
            ⟨some 19, none, .conv (.int .u8) (.t 18)⟩,
            ⟨some 20, none, .bin .or (.t 19) (.c (.int .u8 128))⟩,
            ⟨some 21, none, .iaddr (.array 10 1) (.t 6) (.t 17)⟩,
            ⟨none, none, .store 1 (.t 21) (.t 20)⟩])
           (.seq
            (.reg [⟨some 22, none, .mov (.t 5)⟩,
             ⟨some 23, none, .bin .shr (.t 22) (.c (.int .u64 7))⟩,
             ⟨some 5, none, .mov (.t 23)⟩])
            (.reg [⟨some 24, none, .mov (.t 7)⟩,
             ⟨some 25, none, .bin .add (.t 24) (.c (.int .i64 1))⟩,
             ⟨some 7, none, .mov (.t 25)⟩])))))
/-- tracebook/codec.PutInt -/
def c45 : AFn := ⟨2, 40, [.t 4],
 (.seq
  (.reg [⟨some 4, none, .nilv 1⟩])
  (.seq
   (.reg [⟨some 8, none, .mov (.t 1)⟩,
    ⟨some 9, none, .conv (.int .u64) (.t 8)⟩,
    ⟨some 10, none, .bin .shl (.t 9) (.c (.int .u64 1))⟩,
    ⟨some 11, none, .mov (.t 1)⟩,
    ⟨some 12, none, .bin .shr (.t 11) (.c (.int .u64 63))⟩,
    ⟨some 13, none, .conv (.int .u64) (.t 12)⟩,
    ⟨some 14, none, .bin .xor (.t 10) (.t 13)⟩,
    ⟨some 5, none, .mov (.t 14)⟩])
   (.seq
    (.reg [⟨some 6, none, .alloca 1 10 [(.int .u8 0), (.int .u8 0), (.int .u8 0), (.int .u8 0), (.int .u8 0), (.int .u8 0), (.int .u8 0), (.int .u8 0), (.int .u8 0), (.int .u8 0)]⟩])
    (.seq
     (.reg [⟨some 7, none, .mov (.c (.int .i64 0))⟩])
     (.seq
      (.block 0
       (.loop [0, 5, 6, 7]
        c45b0))
      (.seq
       (.reg [⟨some 26, none, .mov (.t 7)⟩,
        ⟨some 27, none, .mov (.t 5)⟩,
        ⟨some 28, none, .conv (.int .u8) (.t 27)⟩,
        ⟨some 29, none, .iaddr (.array 10 1) (.t 6) (.t 26)⟩,
        ⟨none, none, .store 1 (.t 29) (.t 28)⟩])
       (.seq
        (.reg [⟨some 30, none, .mov (.t 0)⟩,
         ⟨some 31, none, .mov (.t 0)⟩,
         ⟨some 32, none, .len (.t 31)⟩,
         ⟨some 33, none, .mov (.t 0)⟩,
         ⟨some 34, none, .len (.t 33)⟩,
         ⟨some 35, none, .slc (.slice 1) (.t 30) none (some (.t 32)) (some (.t 34))⟩,
         ⟨some 36, none, .mov (.t 7)⟩,
         ⟨some 37, none, .bin .add (.t 36) (.c (.int .i64 1))⟩,
         ⟨some 38, none, .asl 1 10 (.t 6) (some (.t 37))⟩,
         ⟨some 39, none, .append 1 1 (.t 35) (.t 38)⟩,
         ⟨some 4, none, .mov (.t 39)⟩])
        .ret))))))), none⟩
def k45 : List (List Nat) := [[0, 5, 6, 7]]
def o45 : List Nat := [1000038, 1000039, 1000040, 1000041, 1000044, 1000049, 1000050, 1000056, 3000000]
def c46b0 : AC := (.seq
          (.reg [⟨some 28, none, .bin .lss (.t 27) (.t 26)⟩])
          (.seq
           (.cond (.t 28)
            .skip
            (.exit 2))
           (.seq
            (.block 3
             (.seq
              (.reg [⟨some 29, none, .iaddr (.slice 1) (.t 25) (.t 27)⟩,
               ⟨some 30, none, .load 1 false (.t 29)⟩,
               ⟨some 8, none, .mov (.t 30)⟩])
              (.reg [⟨some 31, none, .mov (.t 6)⟩,
               ⟨some 32, none, .mov (.t 8)⟩,
               ⟨some 33, none, .append 1 1 (.t 31) (.t 32)⟩,
               ⟨some 6, none, .mov (.t 33)⟩])))
            (.reg [⟨some 34, none, .bin .add (.t 27) (.c (.int .i64 1))⟩,
             ⟨some 27, none, .mov (.t 34)⟩]))))
def c46b1 : AC := (.seq
        (.reg [⟨some 12, none, .bin .lss (.t 11) (.t 10)⟩])
        (.seq
         (.cond (.t 12)
          .skip
          (.exit 0))
         (.seq
          (.block 1
           (.seq
            (.reg [⟨some 13, none, .iaddr (.slice 1) (.t 9) (.t 11)⟩,
             ⟨some 14, none, .load 1 false (.t 13)⟩,
             ⟨some 5, none, .mov (.t 14)⟩])
            (.seq
             (.reg [⟨some 15, none, .mov (.t 3)⟩,
              ⟨some 16, none, .mov (.t 5)⟩,
              ⟨some 17, none, .len (.t 16)⟩,
              ⟨some 18, none, .bin .add (.t 15) (.t 17)⟩,
              ⟨some 3, none, .mov (.t 18)⟩])
             (.seq
              (.reg [⟨some 19, none, .mov (.t 3)⟩,
               ⟨some 20, none, .bin .lss (.t 19) (.c (.int .i64 0))⟩])
              (.cond (.t 20)
               .stuck
               .skip)))))
          (.reg [⟨some 22, none, .bin .add (.t 11) (.c (.int .i64 1))⟩,
           ⟨some 11, none, .mov (.t 22)⟩]))))
def c46r0 : AC := (.seq
     (.reg [⟨some 23, none, .mov (.t 3)⟩,
      ⟨some 24, none, .call true 54 [(.c .nilS), (.t 23)]⟩,
      ⟨some 6, none, .mov (.t 24)⟩])
     (.seq
      (.seq
       (.reg [⟨some 25, none, .mov (.t 0)⟩,
        ⟨some 26, none, .len (.t 25)⟩,
        ⟨some 27, none, .mov (.c (.int .i64 0))⟩])
       (.block 2
        (.loop [6, 25, 26, 27]
         c46b0)))
      (.seq
       (.reg [⟨some 35, none, .mov (.t 6)⟩,
        ⟨some 2, none, .mov (.t 35)⟩])
       .ret)))
/-- slices.Concat[[]byte,byte] -/
def c46 : AFn := ⟨1, 36, [.t 2],
 (.seq
  (.reg [⟨some 2, none, .nilv 1⟩])
  (.seq
   (.reg [⟨some 3, none, .mov (.c (.int .i64 0))⟩])
   (.seq
    (.seq
     (.reg [⟨some 9, none, .mov (.t 0)⟩,
      ⟨some 10, none, .len (.t 9)⟩,
      ⟨some 11, none, .mov (.c (.int .i64 0))⟩])
     (.block 0
      (.loop [0, 3, 9, 10, 11]
       c46b1)))
    c46r0))), none⟩
def k46 : List (List Nat) := [[0, 3, 9, 10, 11], [6, 25, 26, 27]]
def o46 : List Nat := [1000038, 1000039, 1000040, 1000041, 1000044, 1000049, 1000050, 1000056, 3000000, 24]
def c47b0 : AC := (.seq
        (.seq
         (.reg [⟨some 11, none, .mov (.t 6)⟩,
          ⟨some 12, none, .mov (.t 1)⟩,
          ⟨some 13, none, .lenS (.t 12)⟩,
          ⟨some 14, none, .bin .lss (.t 11) (.t 13)⟩])
         (.cond (.t 14)
          .skip
          (.exit 0)))
        (.seq
         (.block 1
          (.reg [⟨some 17, none, .mov (.t 5)⟩,
           ⟨some 18, none, .mov (.t 1)⟩,
           ⟨some 19, none, .mov (.t 6)⟩,
           ⟨some 20, none, .idxS (.t 18) (.t 19)⟩,
           ⟨some 21, none, .bslice false 1 [(.int .u8 0)] 1 [(0, (.t 20))]⟩,
           ⟨some 22, none, .append 1 1 (.t 17) (.t 21)⟩,
           ⟨some 5, none, .mov (.t 22)⟩]))
         (.reg [⟨some 15, none, .mov (.t 6)⟩,
          ⟨some 16, none, .bin .add (.t 15) (.c (.int .i64 1))⟩,
          ⟨some 6, none, .mov (.t 16)⟩])))
/-- tracebook/tracebookref05.PutText -/
def c47 : AFn := ⟨2, 24, [.t 4],
 (.seq
  (.reg [⟨some 4, none, .nilv 1⟩])
  (.seq
   (.reg [⟨some 7, none, .mov (.t 0)⟩,
    ⟨some 8, none, .mov (.t 1)⟩,
    ⟨some 9, none, .lenS (.t 8)⟩,
    ⟨some 10, none, .call true 36 [(.t 7), (.t 9)]⟩,
    ⟨some 5, none, .mov (.t 10)⟩])
   (.seq
    (.seq
     (.reg [⟨some 6, none, .mov (.c (.int .i64 0))⟩])
     (.block 0
      (.loop [1, 5, 6]
       c47b0)))
    (.seq
     (.reg [⟨some 23, none, .mov (.t 5)⟩,
      ⟨some 4, none, .mov (.t 23)⟩])
     .ret)))), none⟩
def k47 : List (List Nat) := [[1, 5, 6]]
def o47 : List Nat := [1000038, 1000039, 1000040, 1000041, 1000044, 1000049, 1000050, 1000056, 3000000, 10]
/-- tracebook/tracebookref05.number -/
def c48 : AFn := ⟨1, 14, [.t 2],
 (.seq
  (.reg [⟨some 2, none, .mov (.c (.int .u64 0))⟩])
  (.seq
   (.seq
    (.reg [⟨some 3, none, .mov (.t 0)⟩,
     ⟨some 4, none, .bin .lss (.t 3) (.c (.int .i64 0))⟩])
    (.cond (.t 4)
     (.seq
      (.reg [⟨some 5, none, .mov (.t 0)⟩,
       ⟨some 6, none, .bin .add (.t 5) (.c (.int .i64 1))⟩,
       ⟨some 7, none, .un .neg (.t 6)⟩,
       ⟨some 8, none, .conv (.int .u64) (.t 7)⟩,
       ⟨some 9, none, .bin .mul (.c (.int .u64 2)) (.t 8)⟩,
       ⟨some 10, none, .bin .add (.t 9) (.c (.int .u64 1))⟩,
       ⟨some 2, none, .mov (.t 10)⟩])
      .ret)
     .skip))
   (.seq
    (.reg [⟨some 11, none, .mov (.t 0)⟩,
     ⟨some 12, none, .conv (.int .u64) (.t 11)⟩,
     ⟨some 13, none, .bin .mul (.c (.int .u64 2)) (.t 12)⟩,
     ⟨some 2, none, .mov (.t 13)⟩])
    .ret))), none⟩
def k48 : List (List Nat) := []
def o48 : List Nat := [1000038, 1000039, 1000040, 1000041, 1000044, 1000049, 1000050, 1000056, 3000000]
/-- (*tracebook/column.reader).value -/
def c49 : AFn := ⟨1, 59, [.c 2 3 true],
 (.seq
  (.reg [⟨some 2, none, .alloc [(.int .i64 0), (.int .i64 0), (.str [])]⟩])
  (.seq
   (.seq
    (.reg [⟨some 7, none, .mov (.t 0)⟩,
     ⟨some 8, none, .nilck (.t 7)⟩,
     ⟨some 9, none, .faddr 0 (.t 8)⟩,
     ⟨some 10, none, .load 1 false (.t 9)⟩,
     ⟨some 11, none, .len (.t 10)⟩,
     ⟨some 12, none, .bin .eql (.t 11) (.c (.int .i64 0))⟩])
    (.cond (.t 12)
     (.seq
      (.reg [⟨some 13, none, .mov (.t 0)⟩,
       ⟨some 14, none, .nilck (.t 13)⟩,
       ⟨some 15, none, .faddr 1 (.t 14)⟩,
       ⟨none, none, .store 1 (.t 15) (.c (.bool true))⟩])
      (.seq
       (.reg [⟨some 16, none, .build [(.int .i64 0), (.int .i64 0), (.str [])] []⟩,
        ⟨none, none, .store 3 (.t 2) (.t 16)⟩])
       .ret))
     .skip))
   (.seq
    (.reg [⟨some 17, none, .mov (.t 0)⟩,
     ⟨some 18, none, .nilck (.t 17)⟩,
     ⟨some 19, none, .faddr 0 (.t 18)⟩,
     ⟨some 20, none, .load 1 false (.t 19)⟩,
     ⟨some 21, none, .iaddr (.slice 1) (.t 20) (.c (.int .i64 0))⟩,
     ⟨some 22, none, .load 1 false (.t 21)⟩,
     ⟨some 23, none, .conv (.int .i64) (.t 22)⟩,
     ⟨some 24, none, .build [(.int .i64 0), (.int .i64 0), (.str [])] [(0, 1, (.t 23))]⟩,
     ⟨some 3, none, .alloc [(.int .i64 0), (.int .i64 0), (.str [])]⟩,
     ⟨none, none, .store 3 (.t 3) (.t 24)⟩])
    (.seq
     (.reg [⟨some 25, none, .mov (.t 0)⟩,
      ⟨some 26, none, .mov (.t 0)⟩,
      ⟨some 27, none, .nilck (.t 26)⟩,
      ⟨some 28, none, .faddr 0 (.t 27)⟩,
      ⟨some 29, none, .load 1 false (.t 28)⟩,
      ⟨some 30, none, .slc (.slice 1) (.t 29) (some (.c (.int .i64 1))) none none⟩,
      ⟨some 31, none, .nilck (.t 25)⟩,
      ⟨some 32, none, .faddr 0 (.t 31)⟩,
      ⟨none, none, .store 1 (.t 32) (.t 30)⟩])
     (.seq
      (.seq
       (.reg [⟨some 33, none, .faddr 0 (.t 3)⟩,
        ⟨some 34, none, .load 1 false (.t 33)⟩])
       (.block 0
        (.seq
         (.seq
          (.reg [⟨some 36, none, .bin .eql (.t 34) (.c (.int .i64 1))⟩,
           ⟨some 35, none, .mov (.t 36)⟩])
          (.cond (.t 35)
           .skip
           (.reg [⟨some 37, none, .bin .eql (.t 34) (.c (.int .i64 2))⟩,
            ⟨some 35, none, .mov (.t 37)⟩])))
         (.cond (.t 35)
          (.reg [⟨some 38, none, .mov (.t 0)⟩,
           ⟨some 39, none, .callS 50 [(.t 38)]⟩,
           ⟨some 40, none, .faddr 1 (.t 3)⟩,
           ⟨none, none, .store 1 (.t 40) (.t 39)⟩])
          (.seq
           (.reg [⟨some 42, none, .bin .eql (.t 34) (.c (.int .i64 3))⟩,
            ⟨some 41, none, .mov (.t 42)⟩])
           (.cond (.t 41)
            (.seq
             (.reg [⟨some 44, none, .mov (.t 0)⟩,
              ⟨some 45, none, .nilck (.t 44)⟩,
              ⟨some 46, none, .faddr 0 (.t 45)⟩,
              ⟨some 47, none, .load 1 false (.t 46)⟩,
              ⟨some 48, none, .call true 55 [(.t 47), (.c (.int .i64 200))]⟩,
              ⟨some 43, none, .mov (.t 48)⟩,
              ⟨some 49, none, .ext (.t 43) 0⟩,
              ⟨some 50, none, .ext (.t 43) 1⟩,
              ⟨some 51, none, .ext (.t 43) 2⟩,
              ⟨some 4, none, .mov (.t 49)⟩,
              ⟨some 5, none, .mov (.t 50)⟩,
              ⟨some 6, none, .mov (.t 51)⟩])
             (.seq
              (.reg [⟨some 52, none, .mov (.t 0)⟩,
               ⟨some 53, none, .mov (.t 5)⟩,
               ⟨some 54, none, .mov (.t 6)⟩,
               ⟨some 55, none, .callS 56 [(.t 52), (.t 53), (.t 54)]⟩])
              (.reg [⟨some 56, none, .mov (.t 4)⟩,
               ⟨some 57, none, .faddr 2 (.t 3)⟩,
               ⟨none, none, .store 1 (.t 57) (.t 56)⟩])))
            .skip))))))
      (.seq
       (.reg [⟨some 58, none, .load 3 true (.t 3)⟩,
        ⟨none, none, .store 3 (.t 2) (.t 58)⟩])
       .ret)))))), none⟩
def k49 : List (List Nat) := []
def o49 : List Nat := [1000038, 1000039, 1000040, 1000041, 1000044, 1000049, 1000050, 1000056, 3000000, 48]
/-- (*tracebook/column.reader).int -/
def c50 : AFn := ⟨1, 20, [.t 2],
 (.seq
  (.reg [⟨some 2, none, .mov (.c (.int .i64 0))⟩])
  (.seq
   (.reg [⟨some 7, none, .mov (.t 0)⟩,
    ⟨some 8, none, .nilck (.t 7)⟩,
    ⟨some 9, none, .faddr 0 (.t 8)⟩,
    ⟨some 10, none, .load 1 false (.t 9)⟩,
    ⟨some 11, none, .call true 57 [(.t 10)]⟩,
    ⟨some 6, none, .mov (.t 11)⟩,
    ⟨some 12, none, .ext (.t 6) 0⟩,
    ⟨some 13, none, .ext (.t 6) 1⟩,
    ⟨some 14, none, .ext (.t 6) 2⟩,
    ⟨some 3, none, .mov (.t 12)⟩,
    ⟨some 4, none, .mov (.t 13)⟩,
    ⟨some 5, none, .mov (.t 14)⟩])
   (.seq
    (.reg [⟨some 15, none, .mov (.t 0)⟩,
     ⟨some 16, none, .mov (.t 4)⟩,
     ⟨some 17, none, .mov (.t 5)⟩,
     ⟨some 18, none, .callS 56 [(.t 15), (.t 16), (.t 17)]⟩])
    (.seq
     (.reg [⟨some 19, none, .mov (.t 3)⟩,
      ⟨some 2, none, .mov (.t 19)⟩])
     .ret)))), none⟩
def k50 : List (List Nat) := []
def o50 : List Nat := [1000038, 1000039, 1000040, 1000041, 1000044, 1000049, 1000050, 1000056, 3000000, 11]
/-- tracebook/tracebookref05.integer -/
def c51 : AFn := ⟨1, 14, [.t 2],
 (.seq
  (.reg [⟨some 2, none, .mov (.c (.int .i64 0))⟩])
  (.seq
   (.seq
    (.reg [⟨some 3, none, .mov (.t 0)⟩,
     ⟨some 4, none, .bin .rem (.t 3) (.c (.int .u64 2))⟩,
     ⟨some 5, none, .bin .eql (.t 4) (.c (.int .u64 1))⟩])
    (.cond (.t 5)
     (.seq
      (.reg [⟨some 6, none, .mov (.t 0)⟩,
       ⟨some 7, none, .bin .quo (.t 6) (.c (.int .u64 2))⟩,
       ⟨some 8, none, .conv (.int .i64) (.t 7)⟩,
       ⟨some 9, none, .un .neg (.t 8)⟩,
       ⟨some 10, none, .bin .sub (.t 9) (.c (.int .i64 1))⟩,
       ⟨some 2, none, .mov (.t 10)⟩])
      .ret)
     .skip))
   (.seq
    (.reg [⟨some 11, none, .mov (.t 0)⟩,
     ⟨some 12, none, .bin .quo (.t 11) (.c (.int .u64 2))⟩,
     ⟨some 13, none, .conv (.int .i64) (.t 12)⟩,
     ⟨some 2, none, .mov (.t 13)⟩])
    .ret))), none⟩
def k51 : List (List Nat) := []
def o51 : List Nat := [1000038, 1000039, 1000040, 1000041, 1000044, 1000049, 1000050, 1000056, 3000000]
/-- tracebook/tracebookref05.Text -/
def c52 : AFn := ⟨2, 44, [.t 4, .t 5, .t 6],
 (.seq
  (.reg [⟨some 4, none, .mov (.c (.str []))⟩,
   ⟨some 5, none, .mov (.c (.int .i64 0))⟩,
   ⟨some 6, none, .mov (.c (.int .i64 0))⟩])
  (.seq
   (.reg [⟨some 11, none, .mov (.t 0)⟩,
    ⟨some 12, none, .call false 42 [(.t 11)]⟩,
    ⟨some 10, none, .mov (.t 12)⟩,
    ⟨some 13, none, .ext (.t 10) 0⟩,
    ⟨some 14, none, .ext (.t 10) 1⟩,
    ⟨some 15, none, .ext (.t 10) 2⟩,
    ⟨some 7, none, .mov (.t 13)⟩,
    ⟨some 8, none, .mov (.t 14)⟩,
    ⟨some 9, none, .mov (.t 15)⟩])
   (.seq
    (.block 0
     (.seq
      (.reg [⟨some 17, none, .mov (.t 9)⟩,
       ⟨some 18, none, .bin .neq (.t 17) (.c (.int .i64 0))⟩,
       ⟨some 16, none, .mov (.t 18)⟩])
      (.cond (.t 16)
       (.seq
        (.reg [⟨some 19, none, .mov (.t 9)⟩,
         ⟨some 4, none, .mov (.c (.str []))⟩,
         ⟨some 5, none, .mov (.c (.int .i64 0))⟩,
         ⟨some 6, none, .mov (.t 19)⟩])
        .ret)
       (.seq
        (.reg [⟨some 21, none, .mov (.t 7)⟩,
         ⟨some 22, none, .bin .lss (.t 21) (.c (.int .i64 0))⟩,
         ⟨some 20, none, .mov (.t 22)⟩])
        (.cond (.t 20)
         (.seq
          (.reg [⟨some 4, none, .mov (.c (.str []))⟩,
           ⟨some 5, none, .mov (.c (.int .i64 0))⟩,
           ⟨some 6, none, .mov (.c (.int .i64 10))⟩])
          .ret)
         (.seq
          (.reg [⟨some 24, none, .mov (.t 7)⟩,
           ⟨some 25, none, .mov (.t 1)⟩,
           ⟨some 26, none, .bin .gtr (.t 24) (.t 25)⟩,
           ⟨some 23, none, .mov (.t 26)⟩])
          (.cond (.t 23)
           (.seq
            (.reg [⟨some 4, none, .mov (.c (.str []))⟩,
             ⟨some 5, none, .mov (.c (.int .i64 0))⟩,
             ⟨some 6, none, .mov (.c (.int .i64 7))⟩])
            .ret)
           (.seq
            (.reg [⟨some 28, none, .mov (.t 7)⟩,
             ⟨some 29, none, .mov (.t 0)⟩,
             ⟨some 30, none, .len (.t 29)⟩,
             ⟨some 31, none, .mov (.t 8)⟩,
             ⟨some 32, none, .bin .sub (.t 30) (.t 31)⟩,
             ⟨some 33, none, .bin .gtr (.t 28) (.t 32)⟩,
             ⟨some 27, none, .mov (.t 33)⟩])
            (.cond (.t 27)
             (.seq
              (.reg [⟨some 4, none, .mov (.c (.str []))⟩,
               ⟨some 5, none, .mov (.c (.int .i64 0))⟩,
               ⟨some 6, none, .mov (.c (.int .i64 8))⟩])
              .ret)
             .skip)))))))))
    (.seq
     (.reg [⟨some 34, none, .mov (.t 0)⟩,
      ⟨some 35, none, .mov (.t 8)⟩,
      ⟨some 36, none, .mov (.t 8)⟩,
      ⟨some 37, none, .mov (.t 7)⟩,
      ⟨some 38, none, .bin .add (.t 36) (.t 37)⟩,
      ⟨some 39, none, .slc (.slice 1) (.t 34) (some (.t 35)) (some (.t 38)) none⟩,
      ⟨some 40, none, .conv .toStr (.t 39)⟩,
      ⟨some 41, none, .mov (.t 8)⟩,
      ⟨some 42, none, .mov (.t 7)⟩,
      ⟨some 43, none, .bin .add (.t 41) (.t 42)⟩,
      ⟨some 4, none, .mov (.t 40)⟩,
      ⟨some 5, none, .mov (.t 43)⟩,
      ⟨some 6, none, .mov (.c (.int .i64 0))⟩])
     .ret)))), none⟩
def k52 : List (List Nat) := []
def o52 : List Nat := [1000038, 1000039, 1000040, 1000041, 1000044, 1000049, 1000050, 1000056, 3000000]
/-- tracebook/codec.PutText -/
def c53 : AFn := ⟨2, 27, [.t 4],
 (.seq
  (.reg [⟨some 4, none, .nilv 1⟩])
  (.seq
   (.reg [⟨some 7, none, .mov (.t 0)⟩,
    ⟨some 8, none, .mov (.t 1)⟩,
    ⟨some 9, none, .lenS (.t 8)⟩,
    ⟨some 10, none, .call false 45 [(.t 7), (.t 9)]⟩,
    ⟨some 5, none, .mov (.t 10)⟩])
   (.seq
    (.reg [⟨some 11, none, .mov (.t 5)⟩,
     ⟨some 12, none, .len (.t 11)⟩,
     ⟨some 13, none, .mov (.t 1)⟩,
     ⟨some 14, none, .lenS (.t 13)⟩,
     ⟨some 15, none, .bin .add (.t 12) (.t 14)⟩,
     ⟨some 16, none, .make 1 1 [(.int .u8 0)] (.t 15) (.t 15)⟩,
     ⟨some 6, none, .mov (.t 16)⟩])
    (.seq
     (.reg [⟨some 17, none, .mov (.t 6)⟩,
      ⟨some 18, none, .mov (.t 5)⟩,
      ⟨some 19, none, .copy 1 (.t 17) (.t 18)⟩])
     (.seq
      (.reg [⟨some 20, none, .mov (.t 6)⟩,
       ⟨some 21, none, .mov (.t 5)⟩,
       ⟨some 22, none, .len (.t 21)⟩,
       ⟨some 23, none, .slc (.slice 1) (.t 20) (some (.t 22)) none none⟩,
       ⟨some 24, none, .mov (.t 1)⟩,
       ⟨some 25, none, .copy 1 (.t 23) (.t 24)⟩])
      (.seq
       (.reg [⟨some 26, none, .mov (.t 6)⟩,
        ⟨some 4, none, .mov (.t 26)⟩])
       .ret)))))), none⟩
def k53 : List (List Nat) := []
def o53 : List Nat := [1000038, 1000039, 1000040, 1000041, 1000044, 1000049, 1000050, 1000056, 3000000, 16]
/-- slices.Grow[[]byte,byte] -/
def c54 : AFn := ⟨2, 27, [.t 4],
 (.seq
  (.reg [⟨some 4, none, .nilv 1⟩])
  (.seq
   (.seq
    (.reg [⟨some 5, none, .mov (.t 1)⟩,
     ⟨some 6, none, .bin .lss (.t 5) (.c (.int .i64 0))⟩])
    (.cond (.t 6)
     .stuck
     .skip))
   (.seq
    (.seq
     (.reg [⟨some 8, none, .mov (.t 1)⟩,
      ⟨some 9, none, .mov (.t 0)⟩,
      ⟨some 10, none, .capN (.t 9)⟩,
      ⟨some 11, none, .mov (.t 0)⟩,
      ⟨some 12, none, .len (.t 11)⟩,
      ⟨some 13, none, .bin .sub (.t 10) (.t 12)⟩,
      ⟨some 14, none, .bin .sub (.t 8) (.t 13)⟩,
      ⟨some 1, none, .mov (.t 14)⟩])
     (.seq
      (.reg [⟨some 15, none, .mov (.t 1)⟩,
       ⟨some 16, none, .bin .gtr (.t 15) (.c (.int .i64 0))⟩])
      (.cond (.t 16)
       (.reg [⟨some 17, none, .mov (.t 0)⟩,
        ⟨some 18, none, .mov (.t 0)⟩,
        ⟨some 19, none, .capN (.t 18)⟩,
        ⟨some 20, none, .slc (.slice 1) (.t 17) none (some (.t 19)) none⟩,
        ⟨some 21, none, .mov (.t 1)⟩,
        ⟨some 22, none, .appz 1 1 [(.int .u8 0)] (.t 20) (.t 21)⟩,
        ⟨some 23, none, .mov (.t 0)⟩,
        ⟨some 24, none, .len (.t 23)⟩,
        ⟨some 25, none, .slc (.slice 1) (.t 22) none (some (.t 24)) none⟩,
        ⟨some 0, none, .mov (.t 25)⟩])
       .skip)))
    (.seq
     (.reg [⟨some 26, none, .mov (.t 0)⟩,
      ⟨some 4, none, .mov (.t 26)⟩])
     .ret)))), none⟩
def k54 : List (List Nat) := []
def o54 : List Nat := [1000038, 1000039, 1000040, 1000041, 1000044, 1000049, 1000050, 1000056, 3000000]
/-- tracebook/codec.Text -/
def c55 : AFn := ⟨2, 44, [.t 4, .t 5, .t 6],
 (.seq
  (.reg [⟨some 4, none, .mov (.c (.str []))⟩,
   ⟨some 5, none, .mov (.c (.int .i64 0))⟩,
   ⟨some 6, none, .mov (.c (.int .i64 0))⟩])
  (.seq
   (.reg [⟨some 11, none, .mov (.t 0)⟩,
    ⟨some 12, none, .call false 57 [(.t 11)]⟩,
    ⟨some 10, none, .mov (.t 12)⟩,
    ⟨some 13, none, .ext (.t 10) 0⟩,
    ⟨some 14, none, .ext (.t 10) 1⟩,
    ⟨some 15, none, .ext (.t 10) 2⟩,
    ⟨some 7, none, .mov (.t 13)⟩,
    ⟨some 8, none, .mov (.t 14)⟩,
    ⟨some 9, none, .mov (.t 15)⟩])
   (.seq
    (.block 0
     (.seq
      (.reg [⟨some 17, none, .mov (.t 9)⟩,
       ⟨some 18, none, .bin .neq (.t 17) (.c (.int .i64 0))⟩,
       ⟨some 16, none, .mov (.t 18)⟩])
      (.cond (.t 16)
       (.seq
        (.reg [⟨some 19, none, .mov (.t 9)⟩,
         ⟨some 4, none, .mov (.c (.str []))⟩,
         ⟨some 5, none, .mov (.c (.int .i64 0))⟩,
         ⟨some 6, none, .mov (.t 19)⟩])
        .ret)
       (.seq
        (.reg [⟨some 21, none, .mov (.t 7)⟩,
         ⟨some 22, none, .bin .lss (.t 21) (.c (.int .i64 0))⟩,
         ⟨some 20, none, .mov (.t 22)⟩])
        (.cond (.t 20)
         (.seq
          (.reg [⟨some 4, none, .mov (.c (.str []))⟩,
           ⟨some 5, none, .mov (.c (.int .i64 0))⟩,
           ⟨some 6, none, .mov (.c (.int .i64 10))⟩])
          .ret)
         (.seq
          (.reg [⟨some 24, none, .mov (.t 7)⟩,
           ⟨some 25, none, .mov (.t 1)⟩,
           ⟨some 26, none, .bin .gtr (.t 24) (.t 25)⟩,
           ⟨some 23, none, .mov (.t 26)⟩])
          (.cond (.t 23)
           (.seq
            (.reg [⟨some 4, none, .mov (.c (.str []))⟩,
             ⟨some 5, none, .mov (.c (.int .i64 0))⟩,
             ⟨some 6, none, .mov (.c (.int .i64 7))⟩])
            .ret)
           (.seq
            (.reg [⟨some 28, none, .mov (.t 7)⟩,
             ⟨some 29, none, .mov (.t 0)⟩,
             ⟨some 30, none, .len (.t 29)⟩,
             ⟨some 31, none, .mov (.t 8)⟩,
             ⟨some 32, none, .bin .sub (.t 30) (.t 31)⟩,
             ⟨some 33, none, .bin .gtr (.t 28) (.t 32)⟩,
             ⟨some 27, none, .mov (.t 33)⟩])
            (.cond (.t 27)
             (.seq
              (.reg [⟨some 4, none, .mov (.c (.str []))⟩,
               ⟨some 5, none, .mov (.c (.int .i64 0))⟩,
               ⟨some 6, none, .mov (.c (.int .i64 8))⟩])
              .ret)
             .skip)))))))))
    (.seq
     (.reg [⟨some 34, none, .mov (.t 0)⟩,
      ⟨some 35, none, .mov (.t 8)⟩,
      ⟨some 36, none, .mov (.t 8)⟩,
      ⟨some 37, none, .mov (.t 7)⟩,
      ⟨some 38, none, .bin .add (.t 36) (.t 37)⟩,
      ⟨some 39, none, .slc (.slice 1) (.t 34) (some (.t 35)) (some (.t 38)) none⟩,
      ⟨some 40, none, .conv .toStr (.t 39)⟩,
      ⟨some 41, none, .mov (.t 8)⟩,
      ⟨some 42, none, .mov (.t 7)⟩,
      ⟨some 43, none, .bin .add (.t 41) (.t 42)⟩,
      ⟨some 4, none, .mov (.t 40)⟩,
      ⟨some 5, none, .mov (.t 43)⟩,
      ⟨some 6, none, .mov (.c (.int .i64 0))⟩])
     .ret)))), none⟩
def k55 : List (List Nat) := []
def o55 : List Nat := [1000038, 1000039, 1000040, 1000041, 1000044, 1000049, 1000050, 1000056, 3000000]
/-- (*tracebook/column.reader).skip -/
def c56 : AFn := ⟨3, 26, [],
 (.seq
  (.reg [⟨some 6, none, .mov (.t 0)⟩,
   ⟨some 7, none, .mov (.t 0)⟩,
   ⟨some 8, none, .nilck (.t 7)⟩,
   ⟨some 9, none, .faddr 1 (.t 8)⟩,
   ⟨some 10, none, .load 1 false (.t 9)⟩,
   ⟨some 11, none, .mov (.t 10)⟩,
   ⟨some 12, some (11, false), .mov (.t 2)⟩,
   ⟨some 13, some (11, false), .bin .neq (.t 12) (.c (.int .i64 0))⟩,
   ⟨some 14, none, .pick (.t 11) (.c (.bool true)) (.t 13)⟩,
   ⟨some 15, none, .nilck (.t 6)⟩,
   ⟨some 16, none, .faddr 1 (.t 15)⟩,
   ⟨none, none, .store 1 (.t 16) (.t 14)⟩])
  (.reg [⟨some 17, none, .mov (.t 0)⟩,
   ⟨some 18, none, .mov (.t 0)⟩,
   ⟨some 19, none, .nilck (.t 18)⟩,
   ⟨some 20, none, .faddr 0 (.t 19)⟩,
   ⟨some 21, none, .load 1 false (.t 20)⟩,
   ⟨some 22, none, .mov (.t 1)⟩,
   ⟨some 23, none, .slc (.slice 1) (.t 21) (some (.t 22)) none none⟩,
   ⟨some 24, none, .nilck (.t 17)⟩,
   ⟨some 25, none, .faddr 0 (.t 24)⟩,
   ⟨none, none, .store 1 (.t 25) (.t 23)⟩])), none⟩
def k56 : List (List Nat) := []
def o56 : List Nat := [1000038, 1000039, 1000040, 1000041, 1000044, 1000049, 1000050, 1000056, 3000000]
def c57b0 : AC := (.seq
        (.reg [⟨some 8, none, .bin .lss (.t 7) (.c (.int .i64 10))⟩])
        (.seq
         (.cond (.t 8)
          .skip
          (.exit 0))
         (.seq
          (.block 1
           (.seq
            (.reg [⟨some 9, none, .mov (.t 7)⟩,
             ⟨some 6, none, .mov (.t 9)⟩])
            (.seq
             (.seq
              (.reg [⟨some 10, none, .mov (.t 6)⟩,
               ⟨some 11, none, .mov (.t 0)⟩,
               ⟨some 12, none, .len (.t 11)⟩,
               ⟨some 13, none, .bin .eql (.t 10) (.t 12)⟩])
              (.cond (.t 13)
               (.seq
                (.reg [⟨some 2, none, .mov (.c (.int .i64 0))⟩,
                 ⟨some 3, none, .mov (.c (.int .i64 0))⟩,
                 ⟨some 4, none, .mov (.c (.int .i64 8))⟩])
                .ret)
               .skip))
             (.seq
              (.seq
               (.reg [⟨some 14, none, .mov (.t 6)⟩,
                ⟨some 15, none, .bin .eql (.t 14) (.c (.int .i64 9))⟩,
                ⟨some 16, none, .mov (.t 15)⟩,
                ⟨some 17, some (16, true), .mov (.t 0)⟩,
                ⟨some 18, some (16, true), .mov (.t 6)⟩,
                ⟨some 19, some (16, true), .iaddr (.slice 1) (.t 17) (.t 18)⟩,
                ⟨some 20, some (16, true), .load 1 false (.t 19)⟩,
                ⟨some 21, some (16, true), .bin .gtr (.t 20) (.c (.int .u8 1))⟩,
                ⟨some 22, none, .pick (.t 16) (.t 21) (.c (.bool false))⟩])
               (.cond (.t 22)
                (.seq
                 (.reg [⟨some 2, none, .mov (.c (.int .i64 0))⟩,
                  ⟨some 3, none, .mov (.c (.int .i64 0))⟩,
                  ⟨some 4, none, .mov (.c (.int .i64 10))⟩])
                 .ret)
                .skip))
              (.seq
               (.reg [⟨some 23, none, .mov (.t 5)⟩,
                ⟨some 24, none, .mov (.t 0)⟩,
                ⟨some 25, none, .mov (.t 6)⟩,
                ⟨some 26, none, .iaddr (.slice 1) (.t 24) (.t 25)⟩,
                ⟨some 27, none, .load 1 false (.t 26)⟩,
                ⟨some 28, none, .bin .and (.t 27) (.c (.int .u8 127))⟩,
                ⟨some 29, none, .conv (.int .u64) (.t 28)⟩,
                ⟨some 30, none, .mov (.t 6)⟩,
                ⟨some 31, none, .bin .mul (.c (.int .i64 7)) (.t 30)⟩,
                ⟨some 32, none, .bin .shl (.t 29) (.t 31)⟩,
                ⟨some 33, none, .bin .or (.t 23) (.t 32)⟩,
                ⟨some 5, none, .mov (.t 33)⟩])
               (.seq
                (.seq
                 (.reg [⟨some 34, none, .mov (.t 0)⟩,
                  ⟨some 35, none, .mov (.t 6)⟩,
                  ⟨some 36, none, .iaddr (.slice 1) (.t 34) (.t 35)⟩,
                  ⟨some 37, none, .load 1 false (.t 36)⟩,
                  ⟨some 38, none, .bin .geq (.t 37) (.c (.int .u8 128))⟩])
                 (.cond (.t 38)
                  (.exit 1)
                  .skip))
                (.seq
                 (.seq
                  (.reg [⟨some 39, none, .mov (.t 0)⟩,
                   ⟨some 40, none, .mov (.t 6)⟩,
                   ⟨some 41, none, .iaddr (.slice 1) (.t 39) (.t 40)⟩,
                   ⟨some 42, none, .load 1 false (.t 41)⟩,
                   ⟨some 43, none, .bin .eql (.t 42) (.c (.int .u8 0))⟩,
                   ⟨some 44, none, .mov (.t 43)⟩,
                   ⟨some 45, some (44, true), .mov (.t 6)⟩,
                   ⟨some 46, some (44, true), .bin .gtr (.t 45) (.c (.int .i64 0))⟩,
                   ⟨some 47, none, .pick (.t 44) (.t 46) (.c (.bool false))⟩])
                  (.cond (.t 47)
                   (.seq
                    (.reg [⟨some 2, none, .mov (.c (.int .i64 0))⟩,
                     ⟨some 3, none, .mov (.c (.int .i64 0))⟩,
                     ⟨some 4, none, .mov (.c (.int .i64 10))⟩])
                    .ret)
                   .skip))
                 (.seq
                  (.reg [⟨some 48, none, .mov (.t 5)⟩,
                   ⟨some 49, none, .bin .shr (.t 48) (.c (.int .u64 1))⟩,
                   ⟨some 50, none, .conv (.int .i64) (.t 49)⟩,
                   ⟨some 51, none, .mov (.t 5)⟩,
                   ⟨some 52, none, .bin .and (.t 51) (.c (.int .u64 1))⟩,
                   ⟨some 53, none, .conv (.int .i64) (.t 52)⟩,
                   ⟨some 54, none, .un .neg (.t 53)⟩,
                   ⟨some 55, none, .bin .xor (.t 50) (.t 54)⟩,
                   ⟨some 56, none, .mov (.t 6)⟩,
                   ⟨some 57, none, .bin .add (.t 56) (.c (.int .i64 1))⟩,
                   ⟨some 2, none, .mov (.t 55)⟩,
                   ⟨some 3, none, .mov (.t 57)⟩,
                   ⟨some 4, none, .mov (.c (.int .i64 0))⟩])
                  .ret))))))))
          (.reg [⟨some 58, none, .bin .add (.t 7) (.c (.int .i64 1))⟩,
           ⟨some 7, none, .mov (.t 58)⟩]))))
/-- tracebook/codec.Int -/
def c57 : AFn := ⟨1, 59, [.t 2, .t 3, .t 4],
 (.seq
  (.reg [⟨some 2, none, .mov (.c (.int .i64 0))⟩,
   ⟨some 3, none, .mov (.c (.int .i64 0))⟩,
   ⟨some 4, none, .mov (.c (.int .i64 0))⟩])
  (.seq
   (.reg [⟨some 5, none, .mov (.c (.int .u64 0))⟩])
   (.seq
    (.seq
     (.reg [⟨some 7, none, .mov (.c (.int .i64 0))⟩])
     (.block 0
      (.loop [0, 5, 7]
       c57b0)))
    (.seq
     (.reg [⟨some 2, none, .mov (.c (.int .i64 0))⟩,
      ⟨some 3, none, .mov (.c (.int .i64 0))⟩,
      ⟨some 4, none, .mov (.c (.int .i64 10))⟩])
     .ret)))), none⟩
def k57 : List (List Nat) := [[0, 5, 7]]
def o57 : List Nat := [1000038, 1000039, 1000040, 1000041, 1000044, 1000049, 1000050, 1000056, 3000000]
def tbl : List (Nat × AFn) := [(3, c3), (4, c4), (5, c5), (6, c6), (7, c7), (8, c8), (9, c9), (10, c10), (11, c11), (12, c12), (13, c13), (14, c14), (15, c15), (16, c16), (17, c17), (18, c18), (19, c19), (20, c20), (21, c21), (22, c22), (23, c23), (24, c24), (25, c25), (26, c26), (27, c27), (28, c28), (29, c29), (30, c30), (31, c31), (32, c32), (33, c33), (34, c34), (35, c35), (36, c36), (37, c37), (38, c38), (39, c39), (40, c40), (41, c41), (42, c42), (43, c43), (44, c44), (45, c45), (46, c46), (47, c47), (48, c48), (49, c49), (50, c50), (51, c51), (52, c52), (53, c53), (54, c54), (55, c55), (56, c56), (57, c57)]
theorem d3 : digFn Try.prog o3 k3 Try.f3 = some c3 := by kernel_rfl
theorem d4 : digFn Try.prog o4 k4 Try.f4 = some c4 := by kernel_rfl
theorem d5 : digFn Try.prog o5 k5 Try.f5 = some c5 := by kernel_rfl
theorem d6 : digFn Try.prog o6 k6 Try.f6 = some c6 := by kernel_rfl
theorem d7 : digFn Try.prog o7 k7 Try.f7 = some c7 := by kernel_rfl
theorem d8 : digFn Try.prog o8 k8 Try.f8 = some c8 := by kernel_rfl
theorem d9 : digFn Try.prog o9 k9 Try.f9 = some c9 := by kernel_rfl
theorem d10 : digFn Try.prog o10 k10 Try.f10 = some c10 := by kernel_rfl
theorem d11 : digFn Try.prog o11 k11 Try.f11 = some c11 := by kernel_rfl
theorem d12 : digFn Try.prog o12 k12 Try.f12 = some c12 := by kernel_rfl
theorem d13 : digFn Try.prog o13 k13 Try.f13 = some c13 := by kernel_rfl
theorem d14 : digFn Try.prog o14 k14 Try.f14 = some c14 := by kernel_rfl
theorem d15 : digFn Try.prog o15 k15 Try.f15 = some c15 := by kernel_rfl
theorem d16 : digFn Try.prog o16 k16 Try.f16 = some c16 := by kernel_rfl
theorem d17 : digFn Try.prog o17 k17 Try.f17 = some c17 := by kernel_rfl
theorem d18 : digFn Try.prog o18 k18 Try.f18 = some c18 := by kernel_rfl
theorem d19 : digFn Try.prog o19 k19 Try.f19 = some c19 := by kernel_rfl
theorem d20 : digFn Try.prog o20 k20 Try.f20 = some c20 := by kernel_rfl
theorem d21 : digFn Try.prog o21 k21 Try.f21 = some c21 := by kernel_rfl
theorem d22 : digFn Try.prog o22 k22 Try.f22 = some c22 := by kernel_rfl
theorem d23 : digFn Try.prog o23 k23 Try.f23 = some c23 := by kernel_rfl
theorem d24 : digFn Try.prog o24 k24 Try.f24 = some c24 := by kernel_rfl
theorem d25 : digFn Try.prog o25 k25 Try.f25 = some c25 := by kernel_rfl
theorem d26 : digFn Try.prog o26 k26 Try.f26 = some c26 := by kernel_rfl
theorem d27 : digFn Try.prog o27 k27 Try.f27 = some c27 := by kernel_rfl
theorem d28 : digFn Try.prog o28 k28 Try.f28 = some c28 := by kernel_rfl
theorem d29 : digFn Try.prog o29 k29 Try.f29 = some c29 := by kernel_rfl
theorem d30 : digFn Try.prog o30 k30 Try.f30 = some c30 := by kernel_rfl
theorem d31 : digFn Try.prog o31 k31 Try.f31 = some c31 := by kernel_rfl
theorem d32 : digFn Try.prog o32 k32 Try.f32 = some c32 := by kernel_rfl
theorem d33 : digFn Try.prog o33 k33 Try.f33 = some c33 := by kernel_rfl
theorem d34 : digFn Try.prog o34 k34 Try.f34 = some c34 := by kernel_rfl
theorem d35 : digFn Try.prog o35 k35 Try.f35 = some c35 := by kernel_rfl
theorem d36 : digFn Try.prog o36 k36 Try.f36 = some c36 := by kernel_rfl
theorem d37 : digFn Try.prog o37 k37 Try.f37 = some c37 := by kernel_rfl
theorem d38 : digFn Try.prog o38 k38 Try.f38 = some c38 := by kernel_rfl
theorem d39 : digFn Try.prog o39 k39 Try.f39 = some c39 := by kernel_rfl
theorem d40 : digFn Try.prog o40 k40 Try.f40 = some c40 := by kernel_rfl
theorem d41 : digFn Try.prog o41 k41 Try.f41 = some c41 := by kernel_rfl
theorem d42 : digFn Try.prog o42 k42 Try.f42 = some c42 := by kernel_rfl
theorem d43 : digFn Try.prog o43 k43 Try.f43 = some c43 := by kernel_rfl
theorem d44 : digFn Try.prog o44 k44 Try.f44 = some c44 := by kernel_rfl
theorem d45 : digFn Try.prog o45 k45 Try.f45 = some c45 := by kernel_rfl
theorem d46 : digFn Try.prog o46 k46 Try.f46 = some c46 := by kernel_rfl
theorem d47 : digFn Try.prog o47 k47 Try.f47 = some c47 := by kernel_rfl
theorem d48 : digFn Try.prog o48 k48 Try.f48 = some c48 := by kernel_rfl
theorem d49 : digFn Try.prog o49 k49 Try.f49 = some c49 := by kernel_rfl
theorem d50 : digFn Try.prog o50 k50 Try.f50 = some c50 := by kernel_rfl
theorem d51 : digFn Try.prog o51 k51 Try.f51 = some c51 := by kernel_rfl
theorem d52 : digFn Try.prog o52 k52 Try.f52 = some c52 := by kernel_rfl
theorem d53 : digFn Try.prog o53 k53 Try.f53 = some c53 := by kernel_rfl
theorem d54 : digFn Try.prog o54 k54 Try.f54 = some c54 := by kernel_rfl
theorem d55 : digFn Try.prog o55 k55 Try.f55 = some c55 := by kernel_rfl
theorem d56 : digFn Try.prog o56 k56 Try.f56 = some c56 := by kernel_rfl
theorem d57 : digFn Try.prog o57 k57 Try.f57 = some c57 := by kernel_rfl
def Dg (f : Nat) : Option AFn := lookP tbl f
theorem D3 : Dg 3 = some c3 := by kernel_rfl
theorem D4 : Dg 4 = some c4 := by kernel_rfl
theorem D5 : Dg 5 = some c5 := by kernel_rfl
theorem D6 : Dg 6 = some c6 := by kernel_rfl
theorem D7 : Dg 7 = some c7 := by kernel_rfl
theorem D8 : Dg 8 = some c8 := by kernel_rfl
theorem D9 : Dg 9 = some c9 := by kernel_rfl
theorem D10 : Dg 10 = some c10 := by kernel_rfl
theorem D11 : Dg 11 = some c11 := by kernel_rfl
theorem D12 : Dg 12 = some c12 := by kernel_rfl
theorem D13 : Dg 13 = some c13 := by kernel_rfl
theorem D14 : Dg 14 = some c14 := by kernel_rfl
theorem D15 : Dg 15 = some c15 := by kernel_rfl
theorem D16 : Dg 16 = some c16 := by kernel_rfl
theorem D17 : Dg 17 = some c17 := by kernel_rfl
theorem D18 : Dg 18 = some c18 := by kernel_rfl
theorem D19 : Dg 19 = some c19 := by kernel_rfl
theorem D20 : Dg 20 = some c20 := by kernel_rfl
theorem D21 : Dg 21 = some c21 := by kernel_rfl
theorem D22 : Dg 22 = some c22 := by kernel_rfl
theorem D23 : Dg 23 = some c23 := by kernel_rfl
theorem D24 : Dg 24 = some c24 := by kernel_rfl
theorem D25 : Dg 25 = some c25 := by kernel_rfl
theorem D26 : Dg 26 = some c26 := by kernel_rfl
theorem D27 : Dg 27 = some c27 := by kernel_rfl
theorem D28 : Dg 28 = some c28 := by kernel_rfl
theorem D29 : Dg 29 = some c29 := by kernel_rfl
theorem D30 : Dg 30 = some c30 := by kernel_rfl
theorem D31 : Dg 31 = some c31 := by kernel_rfl
theorem D32 : Dg 32 = some c32 := by kernel_rfl
theorem D33 : Dg 33 = some c33 := by kernel_rfl
theorem D34 : Dg 34 = some c34 := by kernel_rfl
theorem D35 : Dg 35 = some c35 := by kernel_rfl
theorem D36 : Dg 36 = some c36 := by kernel_rfl
theorem D37 : Dg 37 = some c37 := by kernel_rfl
theorem D38 : Dg 38 = some c38 := by kernel_rfl
theorem D39 : Dg 39 = some c39 := by kernel_rfl
theorem D40 : Dg 40 = some c40 := by kernel_rfl
theorem D41 : Dg 41 = some c41 := by kernel_rfl
theorem D42 : Dg 42 = some c42 := by kernel_rfl
theorem D43 : Dg 43 = some c43 := by kernel_rfl
theorem D44 : Dg 44 = some c44 := by kernel_rfl
theorem D45 : Dg 45 = some c45 := by kernel_rfl
theorem D46 : Dg 46 = some c46 := by kernel_rfl
theorem D47 : Dg 47 = some c47 := by kernel_rfl
theorem D48 : Dg 48 = some c48 := by kernel_rfl
theorem D49 : Dg 49 = some c49 := by kernel_rfl
theorem D50 : Dg 50 = some c50 := by kernel_rfl
theorem D51 : Dg 51 = some c51 := by kernel_rfl
theorem D52 : Dg 52 = some c52 := by kernel_rfl
theorem D53 : Dg 53 = some c53 := by kernel_rfl
theorem D54 : Dg 54 = some c54 := by kernel_rfl
theorem D55 : Dg 55 = some c55 := by kernel_rfl
theorem D56 : Dg 56 = some c56 := by kernel_rfl
theorem D57 : Dg 57 = some c57 := by kernel_rfl
theorem dokL [Bs] : ∀ x ∈ tbl, FnOk Try.prog x.1 x.2 :=
  all_cons (fnok Try.func3 d3) (
  all_cons (fnok Try.func4 d4) (
  all_cons (fnok Try.func5 d5) (
  all_cons (fnok Try.func6 d6) (
  all_cons (fnok Try.func7 d7) (
  all_cons (fnok Try.func8 d8) (
  all_cons (fnok Try.func9 d9) (
  all_cons (fnok Try.func10 d10) (
  all_cons (fnok Try.func11 d11) (
  all_cons (fnok Try.func12 d12) (
  all_cons (fnok Try.func13 d13) (
  all_cons (fnok Try.func14 d14) (
  all_cons (fnok Try.func15 d15) (
  all_cons (fnok Try.func16 d16) (
  all_cons (fnok Try.func17 d17) (
  all_cons (fnok Try.func18 d18) (
  all_cons (fnok Try.func19 d19) (
  all_cons (fnok Try.func20 d20) (
  all_cons (fnok Try.func21 d21) (
  all_cons (fnok Try.func22 d22) (
  all_cons (fnok Try.func23 d23) (
  all_cons (fnok Try.func24 d24) (
  all_cons (fnok Try.func25 d25) (
  all_cons (fnok Try.func26 d26) (
  all_cons (fnok Try.func27 d27) (
  all_cons (fnok Try.func28 d28) (
  all_cons (fnok Try.func29 d29) (
  all_cons (fnok Try.func30 d30) (
  all_cons (fnok Try.func31 d31) (
  all_cons (fnok Try.func32 d32) (
  all_cons (fnok Try.func33 d33) (
  all_cons (fnok Try.func34 d34) (
  all_cons (fnok Try.func35 d35) (
  all_cons (fnok Try.func36 d36) (
  all_cons (fnok Try.func37 d37) (
  all_cons (fnok Try.func38 d38) (
  all_cons (fnok Try.func39 d39) (
  all_cons (fnok Try.func40 d40) (
  all_cons (fnok Try.func41 d41) (
  all_cons (fnok Try.func42 d42) (
  all_cons (fnok Try.func43 d43) (
  all_cons (fnok Try.func44 d44) (
  all_cons (fnok Try.func45 d45) (
  all_cons (fnok Try.func46 d46) (
  all_cons (fnok Try.func47 d47) (
  all_cons (fnok Try.func48 d48) (
  all_cons (fnok Try.func49 d49) (
  all_cons (fnok Try.func50 d50) (
  all_cons (fnok Try.func51 d51) (
  all_cons (fnok Try.func52 d52) (
  all_cons (fnok Try.func53 d53) (
  all_cons (fnok Try.func54 d54) (
  all_cons (fnok Try.func55 d55) (
  all_cons (fnok Try.func56 d56) (
  all_cons (fnok Try.func57 d57) (
  all_nil)))))))))))))))))))))))))))))))))))))))))))))))))))))))
theorem dok (bs : Bs) : DOk Try.prog Dg := fun f fc h => dokL (f, fc) (lookP_mem h)

end Go.Proofs.Ytimipbbcmiblkaa
