/- The code of the functions, as it is read. -/
import Derived.Test.YtalmhggbdfjalaaSs
import Derived.Test.YtalmhggbdfjalaaProg
namespace Go.Proofs.Ytalmhggbdfjalaa
open Go
/-- tracebook/tracebooklaw31.MemoryOf -/
def c3 : AFn := ⟨2, 19, [.t 4],
 (.seq
  (.reg [⟨some 4, none, .mov (.c (.bool false))⟩])
  (.seq
   (.seq
    (.reg [⟨some 5, none, .mov (.t 0)⟩,
     ⟨some 6, none, .call false 8 [(.t 5)]⟩,
     ⟨some 7, none, .un .not (.t 6)⟩])
    (.cond (.t 7)
     (.seq
      (.reg [⟨some 8, none, .call false 9 []⟩,
       ⟨some 4, none, .mov (.t 8)⟩])
      .ret)
     .skip))
   (.seq
    (.reg [⟨some 9, none, .mov (.t 0)⟩,
     ⟨some 10, none, .mov (.t 1)⟩,
     ⟨some 11, none, .call false 11 [(.t 9), (.t 10)]⟩,
     ⟨some 12, none, .mov (.t 0)⟩,
     ⟨some 13, none, .mov (.t 1)⟩,
     ⟨some 14, none, .call false 12 [(.t 12), (.t 13)]⟩,
     ⟨some 15, none, .call false 10 [(.t 11), (.t 14)]⟩,
     ⟨some 16, none, .mov (.t 15)⟩,
     ⟨some 17, some (16, true), .call false 9 []⟩,
     ⟨some 18, none, .pick (.t 16) (.t 17) (.c (.bool false))⟩,
     ⟨some 4, none, .mov (.t 18)⟩])
    .ret))), none⟩
def k3 : List (List Nat) := []
def o3 : List Nat := [1000030, 1000032, 1000040, 1000045, 1000049, 1000051, 1000052, 1000055, 1000056, 1000057, 1000058, 1000059, 1000060, 1000061, 1000062, 1000065, 1000066, 1000069, 1000070, 1000071, 1000072, 3000000]
/-- tracebook/tracebooklaw31.MemoryChecks -/
def c4 : AFn := ⟨2, 60, [.t 4],
 (.seq
  (.reg [⟨some 4, none, .mov (.c (.bool false))⟩])
  (.seq
   (.seq
    (.reg [⟨some 9, none, .mov (.t 0)⟩,
     ⟨some 10, none, .call false 13 [(.t 9)]⟩,
     ⟨some 11, none, .un .not (.t 10)⟩])
    (.cond (.t 11)
     (.seq
      (.reg [⟨some 12, none, .call false 9 []⟩,
       ⟨some 4, none, .mov (.t 12)⟩])
      .ret)
     .skip))
   (.seq
    (.seq
     (.reg [⟨some 13, none, .mov (.t 0)⟩,
      ⟨some 14, none, .call false 14 [(.t 13)]⟩,
      ⟨some 15, none, .mov (.t 0)⟩,
      ⟨some 16, none, .call false 15 [(.t 15)]⟩,
      ⟨some 17, none, .bin .neq (.t 14) (.t 16)⟩,
      ⟨some 18, none, .mov (.t 17)⟩,
      ⟨some 19, some (18, false), .mov (.t 0)⟩,
      ⟨some 20, some (18, false), .call false 16 [(.t 19)]⟩,
      ⟨some 21, some (18, false), .mov (.t 0)⟩,
      ⟨some 22, some (18, false), .call false 17 [(.t 21)]⟩,
      ⟨some 23, some (18, false), .call false 10 [(.t 20), (.t 22)]⟩,
      ⟨some 24, some (18, false), .un .not (.t 23)⟩,
      ⟨some 25, none, .pick (.t 18) (.c (.bool true)) (.t 24)⟩])
     (.cond (.t 25)
      (.seq
       (.reg [⟨some 4, none, .mov (.c (.bool false))⟩])
       .ret)
      .skip))
    (.seq
     (.seq
      (.reg [⟨some 26, none, .mov (.t 0)⟩,
       ⟨some 27, none, .call false 15 [(.t 26)]⟩,
       ⟨some 28, none, .bin .neq (.t 27) (.c (.int .i64 0))⟩])
      (.cond (.t 28)
       (.seq
        (.reg [⟨some 29, none, .call false 9 []⟩,
         ⟨some 4, none, .mov (.t 29)⟩])
        .ret)
       .skip))
     (.seq
      (.reg [⟨some 31, none, .mov (.t 0)⟩,
       ⟨some 32, none, .call false 18 [(.t 31)]⟩,
       ⟨some 30, none, .mov (.t 32)⟩,
       ⟨some 33, none, .ext (.t 30) 0⟩,
       ⟨some 34, none, .ext (.t 30) 1⟩,
       ⟨some 5, none, .mov (.t 33)⟩,
       ⟨some 6, none, .mov (.t 34)⟩])
      (.seq
       (.reg [⟨some 36, none, .mov (.t 0)⟩,
        ⟨some 37, none, .call false 19 [(.t 36)]⟩,
        ⟨some 35, none, .mov (.t 37)⟩,
        ⟨some 38, none, .ext (.t 35) 0⟩,
        ⟨some 39, none, .ext (.t 35) 1⟩,
        ⟨some 7, none, .mov (.t 38)⟩,
        ⟨some 8, none, .mov (.t 39)⟩])
       (.seq
        (.reg [⟨some 40, none, .mov (.t 0)⟩,
         ⟨some 41, none, .mov (.t 1)⟩,
         ⟨some 42, none, .call false 20 [(.t 40), (.t 41)]⟩,
         ⟨some 43, none, .mov (.t 0)⟩,
         ⟨some 44, none, .mov (.t 1)⟩,
         ⟨some 45, none, .call false 21 [(.t 43), (.t 44)]⟩,
         ⟨some 46, none, .bin .eql (.t 42) (.t 45)⟩,
         ⟨some 47, none, .mov (.t 46)⟩,
         ⟨some 48, some (47, true), .mov (.t 5)⟩,
         ⟨some 49, some (47, true), .mov (.t 7)⟩,
         ⟨some 50, some (47, true), .bin .eql (.t 48) (.t 49)⟩,
         ⟨some 51, none, .pick (.t 47) (.t 50) (.c (.bool false))⟩,
         ⟨some 52, none, .mov (.t 51)⟩,
         ⟨some 53, some (52, true), .mov (.t 6)⟩,
         ⟨some 54, some (52, true), .mov (.t 8)⟩,
         ⟨some 55, some (52, true), .bin .eql (.t 53) (.t 54)⟩,
         ⟨some 56, none, .pick (.t 52) (.t 55) (.c (.bool false))⟩,
         ⟨some 57, none, .mov (.t 56)⟩,
         ⟨some 58, some (57, true), .call false 9 []⟩,
         ⟨some 59, none, .pick (.t 57) (.t 58) (.c (.bool false))⟩,
         ⟨some 4, none, .mov (.t 59)⟩])
        .ret))))))), none⟩
def k4 : List (List Nat) := []
def o4 : List Nat := [1000030, 1000032, 1000040, 1000045, 1000049, 1000051, 1000052, 1000055, 1000056, 1000057, 1000058, 1000059, 1000060, 1000061, 1000062, 1000065, 1000066, 1000069, 1000070, 1000071, 1000072, 3000000]
/-- tracebook/tracebooklaw31.MemoryPeak -/
def c5 : AFn := ⟨2, 66, [.t 4],
 (.seq
  (.reg [⟨some 4, none, .mov (.c (.bool false))⟩])
  (.seq
   (.seq
    (.reg [⟨some 8, none, .mov (.t 0)⟩,
     ⟨some 9, none, .call false 13 [(.t 8)]⟩,
     ⟨some 10, none, .un .not (.t 9)⟩,
     ⟨some 11, none, .mov (.t 10)⟩,
     ⟨some 12, some (11, false), .mov (.t 0)⟩,
     ⟨some 13, some (11, false), .call false 14 [(.t 12)]⟩,
     ⟨some 14, some (11, false), .bin .neq (.t 13) (.c (.int .i64 0))⟩,
     ⟨some 15, none, .pick (.t 11) (.c (.bool true)) (.t 14)⟩])
    (.cond (.t 15)
     (.seq
      (.reg [⟨some 16, none, .call false 9 []⟩,
       ⟨some 4, none, .mov (.t 16)⟩])
      .ret)
     .skip))
   (.seq
    (.reg [⟨some 18, none, .mov (.t 0)⟩,
     ⟨some 19, none, .call false 18 [(.t 18)]⟩,
     ⟨some 17, none, .mov (.t 19)⟩,
     ⟨some 20, none, .ext (.t 17) 0⟩,
     ⟨some 21, none, .ext (.t 17) 1⟩,
     ⟨some 5, none, .mov (.t 20)⟩,
     ⟨some 6, none, .mov (.t 21)⟩])
    (.seq
     (.seq
      (.reg [⟨some 22, none, .mov (.t 0)⟩,
       ⟨some 23, none, .len (.t 22)⟩,
       ⟨some 24, none, .bin .eql (.t 23) (.c (.int .i64 0))⟩])
      (.cond (.t 24)
       (.seq
        (.reg [⟨some 25, none, .mov (.t 5)⟩,
         ⟨some 26, none, .bin .eql (.t 25) (.c (.int .i64 0))⟩,
         ⟨some 27, none, .mov (.t 26)⟩,
         ⟨some 28, some (27, true), .mov (.t 6)⟩,
         ⟨some 29, some (27, true), .bin .eql (.t 28) (.c (.int .i64 0))⟩,
         ⟨some 30, none, .pick (.t 27) (.t 29) (.c (.bool false))⟩,
         ⟨some 31, none, .mov (.t 30)⟩,
         ⟨some 32, some (31, true), .mov (.t 0)⟩,
         ⟨some 33, some (31, true), .mov (.t 1)⟩,
         ⟨some 34, some (31, true), .call false 20 [(.t 32), (.t 33)]⟩,
         ⟨some 35, some (31, true), .bin .eql (.t 34) (.c (.int .i64 0))⟩,
         ⟨some 36, none, .pick (.t 31) (.t 35) (.c (.bool false))⟩,
         ⟨some 37, none, .mov (.t 36)⟩,
         ⟨some 38, some (37, true), .call false 9 []⟩,
         ⟨some 39, none, .pick (.t 37) (.t 38) (.c (.bool false))⟩,
         ⟨some 4, none, .mov (.t 39)⟩])
        .ret)
       .skip))
     (.seq
      (.reg [⟨some 40, none, .mov (.t 0)⟩,
       ⟨some 41, none, .mov (.t 1)⟩,
       ⟨some 42, none, .call false 20 [(.t 40), (.t 41)]⟩,
       ⟨some 7, none, .mov (.t 42)⟩])
      (.seq
       (.reg [⟨some 43, none, .mov (.t 0)⟩,
        ⟨some 44, none, .mov (.t 5)⟩,
        ⟨some 45, none, .call false 20 [(.t 43), (.t 44)]⟩,
        ⟨some 46, none, .mov (.t 6)⟩,
        ⟨some 47, none, .bin .eql (.t 45) (.t 46)⟩,
        ⟨some 48, none, .mov (.t 47)⟩,
        ⟨some 49, some (48, true), .mov (.t 7)⟩,
        ⟨some 50, some (48, true), .mov (.t 6)⟩,
        ⟨some 51, some (48, true), .bin .leq (.t 49) (.t 50)⟩,
        ⟨some 52, none, .pick (.t 48) (.t 51) (.c (.bool false))⟩,
        ⟨some 53, none, .mov (.t 52)⟩,
        ⟨some 54, some (53, true), .mov (.t 1)⟩,
        ⟨some 55, some (53, true), .mov (.t 5)⟩,
        ⟨some 56, some (53, true), .bin .geq (.t 54) (.t 55)⟩,
        ⟨some 57, some (53, true), .mov (.t 56)⟩,
        ⟨some 58, some (57, false), .mov (.t 7)⟩,
        ⟨some 59, some (57, false), .mov (.t 6)⟩,
        ⟨some 60, some (57, false), .bin .lss (.t 58) (.t 59)⟩,
        ⟨some 61, some (53, true), .pick (.t 57) (.c (.bool true)) (.t 60)⟩,
        ⟨some 62, none, .pick (.t 53) (.t 61) (.c (.bool false))⟩,
        ⟨some 63, none, .mov (.t 62)⟩,
        ⟨some 64, some (63, true), .call false 9 []⟩,
        ⟨some 65, none, .pick (.t 63) (.t 64) (.c (.bool false))⟩,
        ⟨some 4, none, .mov (.t 65)⟩])
       .ret)))))), none⟩
def k5 : List (List Nat) := []
def o5 : List Nat := [1000030, 1000032, 1000040, 1000045, 1000049, 1000051, 1000052, 1000055, 1000056, 1000057, 1000058, 1000059, 1000060, 1000061, 1000062, 1000065, 1000066, 1000069, 1000070, 1000071, 1000072, 3000000]
def c6b0 : AC := (.seq
                  (.seq
                   (.reg [⟨some 56, none, .mov (.t 9)⟩,
                    ⟨some 57, none, .mov (.t 0)⟩,
                    ⟨some 58, none, .len (.t 57)⟩,
                    ⟨some 59, none, .bin .lss (.t 56) (.t 58)⟩])
                   (.cond (.t 59)
                    .skip
                    (.exit 2)))
                  (.seq
                   (.block 3
                    (.seq
                     (.reg [⟨some 62, none, .mov (.t 0)⟩,
                      ⟨some 63, none, .mov (.t 9)⟩,
                      ⟨some 64, none, .iaddr (.slice 10) (.t 62) (.t 63)⟩,
                      ⟨some 65, none, .faddr 2 (.t 64)⟩,
                      ⟨some 66, none, .load 6 true (.t 65)⟩,
                      ⟨some 10, none, .alloc [(.int .i64 0), (.int .i64 0), (.str []), (.int .i64 0), (.int .i64 0), .nilS]⟩,
                      ⟨none, none, .store 6 (.t 10) (.t 66)⟩])
                     (.seq
                      (.seq
                       (.reg [⟨some 67, none, .faddr 3 (.t 10)⟩,
                        ⟨some 68, none, .load 1 false (.t 67)⟩,
                        ⟨some 69, none, .mov (.t 5)⟩,
                        ⟨some 70, none, .mov (.t 6)⟩,
                        ⟨some 71, none, .iaddr (.slice 7) (.t 69) (.t 70)⟩,
                        ⟨some 72, none, .faddr 0 (.t 71)⟩,
                        ⟨some 73, none, .load 1 false (.t 72)⟩,
                        ⟨some 74, none, .bin .neq (.t 68) (.t 73)⟩,
                        ⟨some 75, none, .mov (.t 74)⟩,
                        ⟨some 76, some (75, false), .faddr 1 (.t 10)⟩,
                        ⟨some 77, some (75, false), .load 1 false (.t 76)⟩,
                        ⟨some 78, some (75, false), .bin .neq (.t 77) (.c (.int .i64 11))⟩,
                        ⟨some 79, some (75, false), .mov (.t 78)⟩,
                        ⟨some 80, some (79, true), .faddr 1 (.t 10)⟩,
                        ⟨some 81, some (79, true), .load 1 false (.t 80)⟩,
                        ⟨some 82, some (79, true), .bin .neq (.t 81) (.c (.int .i64 12))⟩,
                        ⟨some 83, some (75, false), .pick (.t 79) (.t 82) (.c (.bool false))⟩,
                        ⟨some 84, none, .pick (.t 75) (.c (.bool true)) (.t 83)⟩])
                       (.cond (.t 84)
                        (.exit 3)
                        .skip))
                      (.seq
                       (.reg [⟨some 85, none, .mov (.t 7)⟩,
                        ⟨some 86, none, .mov (.t 85)⟩,
                        ⟨some 87, some (86, false), .faddr 1 (.t 10)⟩,
                        ⟨some 88, some (86, false), .load 1 false (.t 87)⟩,
                        ⟨some 89, some (86, false), .bin .eql (.t 88) (.c (.int .i64 11))⟩,
                        ⟨some 90, some (86, false), .mov (.t 89)⟩,
                        ⟨some 91, some (90, true), .mov (.t 0)⟩,
                        ⟨some 92, some (90, true), .mov (.t 9)⟩,
                        ⟨some 93, some (90, true), .iaddr (.slice 10) (.t 91) (.t 92)⟩,
                        ⟨some 94, some (90, true), .load 10 true (.t 93)⟩,
                        ⟨some 95, some (90, true), .call false 25 [(.t 94)]⟩,
                        ⟨some 96, some (90, true), .mov (.t 5)⟩,
                        ⟨some 97, some (90, true), .mov (.t 6)⟩,
                        ⟨some 98, some (90, true), .iaddr (.slice 7) (.t 96) (.t 97)⟩,
                        ⟨some 99, some (90, true), .faddr 3 (.t 98)⟩,
                        ⟨some 100, some (90, true), .faddr 0 (.t 99)⟩,
                        ⟨some 101, some (90, true), .load 1 false (.t 100)⟩,
                        ⟨some 102, some (90, true), .bin .eql (.t 95) (.t 101)⟩,
                        ⟨some 103, some (86, false), .pick (.t 90) (.t 102) (.c (.bool false))⟩,
                        ⟨some 104, some (86, false), .mov (.t 103)⟩,
                        ⟨some 105, some (104, true), .faddr 4 (.t 10)⟩,
                        ⟨some 106, some (104, true), .load 1 false (.t 105)⟩,
                        ⟨some 107, some (104, true), .mov (.t 5)⟩,
                        ⟨some 108, some (104, true), .mov (.t 6)⟩,
                        ⟨some 109, some (104, true), .iaddr (.slice 7) (.t 107) (.t 108)⟩,
                        ⟨some 110, some (104, true), .faddr 2 (.t 109)⟩,
                        ⟨some 111, some (104, true), .load 1 false (.t 110)⟩,
                        ⟨some 112, some (104, true), .bin .eql (.t 106) (.t 111)⟩,
                        ⟨some 113, some (86, false), .pick (.t 104) (.t 112) (.c (.bool false))⟩,
                        ⟨some 114, some (86, false), .mov (.t 113)⟩,
                        ⟨some 115, some (114, true), .mov (.t 0)⟩,
                        ⟨some 116, some (114, true), .mov (.t 9)⟩,
                        ⟨some 117, some (114, true), .iaddr (.slice 10) (.t 115) (.t 116)⟩,
                        ⟨some 118, some (114, true), .faddr 0 (.t 117)⟩,
                        ⟨some 119, some (114, true), .faddr 0 (.t 118)⟩,
                        ⟨some 120, some (114, true), .load 1 false (.t 119)⟩,
                        ⟨some 121, some (114, true), .mov (.t 5)⟩,
                        ⟨some 122, some (114, true), .mov (.t 6)⟩,
                        ⟨some 123, some (114, true), .iaddr (.slice 7) (.t 121) (.t 122)⟩,
                        ⟨some 124, some (114, true), .faddr 1 (.t 123)⟩,
                        ⟨some 125, some (114, true), .load 1 false (.t 124)⟩,
                        ⟨some 126, some (114, true), .bin .eql (.t 120) (.t 125)⟩,
                        ⟨some 127, some (86, false), .pick (.t 114) (.t 126) (.c (.bool false))⟩,
                        ⟨some 128, none, .pick (.t 86) (.c (.bool true)) (.t 127)⟩,
                        ⟨some 7, none, .mov (.t 128)⟩])
                       (.reg [⟨some 129, none, .mov (.t 8)⟩,
                        ⟨some 130, none, .mov (.t 129)⟩,
                        ⟨some 131, some (130, false), .mov (.t 5)⟩,
                        ⟨some 132, some (130, false), .mov (.t 6)⟩,
                        ⟨some 133, some (130, false), .iaddr (.slice 7) (.t 131) (.t 132)⟩,
                        ⟨some 134, some (130, false), .faddr 6 (.t 133)⟩,
                        ⟨some 135, some (130, false), .load 1 false (.t 134)⟩,
                        ⟨some 136, some (130, false), .un .not (.t 135)⟩,
                        ⟨some 137, some (130, false), .mov (.t 136)⟩,
                        ⟨some 138, some (137, true), .mov (.t 0)⟩,
                        ⟨some 139, some (137, true), .mov (.t 9)⟩,
                        ⟨some 140, some (137, true), .iaddr (.slice 10) (.t 138) (.t 139)⟩,
                        ⟨some 141, some (137, true), .load 10 true (.t 140)⟩,
                        ⟨some 142, some (137, true), .call false 25 [(.t 141)]⟩,
                        ⟨some 143, some (137, true), .mov (.t 5)⟩,
                        ⟨some 144, some (137, true), .mov (.t 6)⟩,
                        ⟨some 145, some (137, true), .iaddr (.slice 7) (.t 143) (.t 144)⟩,
                        ⟨some 146, some (137, true), .faddr 3 (.t 145)⟩,
                        ⟨some 147, some (137, true), .faddr 1 (.t 146)⟩,
                        ⟨some 148, some (137, true), .load 1 false (.t 147)⟩,
                        ⟨some 149, some (137, true), .bin .eql (.t 142) (.t 148)⟩,
                        ⟨some 150, some (130, false), .pick (.t 137) (.t 149) (.c (.bool false))⟩,
                        ⟨some 151, none, .pick (.t 130) (.c (.bool true)) (.t 150)⟩,
                        ⟨some 8, none, .mov (.t 151)⟩])))))
                   (.reg [⟨some 60, none, .mov (.t 9)⟩,
                    ⟨some 61, none, .bin .add (.t 60) (.c (.int .i64 1))⟩,
                    ⟨some 9, none, .mov (.t 61)⟩])))
def c6b1 : AC := (.seq
          (.seq
           (.reg [⟨some 33, none, .mov (.t 6)⟩,
            ⟨some 34, none, .mov (.t 5)⟩,
            ⟨some 35, none, .len (.t 34)⟩,
            ⟨some 36, none, .bin .lss (.t 33) (.t 35)⟩])
           (.cond (.t 36)
            .skip
            (.exit 0)))
          (.seq
           (.block 1
            (.seq
             (.reg [⟨some 39, none, .mov (.t 5)⟩,
              ⟨some 40, none, .mov (.t 6)⟩,
              ⟨some 41, none, .iaddr (.slice 7) (.t 39) (.t 40)⟩,
              ⟨some 42, none, .faddr 6 (.t 41)⟩,
              ⟨some 43, none, .load 1 false (.t 42)⟩,
              ⟨some 44, none, .mov (.t 43)⟩,
              ⟨some 45, some (44, true), .mov (.t 5)⟩,
              ⟨some 46, some (44, true), .mov (.t 6)⟩,
              ⟨some 47, some (44, true), .iaddr (.slice 7) (.t 45) (.t 46)⟩,
              ⟨some 48, some (44, true), .faddr 3 (.t 47)⟩,
              ⟨some 49, some (44, true), .faddr 1 (.t 48)⟩,
              ⟨some 50, some (44, true), .load 1 false (.t 49)⟩,
              ⟨some 51, some (44, true), .mov (.t 0)⟩,
              ⟨some 52, some (44, true), .mov (.t 1)⟩,
              ⟨some 53, some (44, true), .call false 24 [(.t 51), (.t 52)]⟩,
              ⟨some 54, some (44, true), .bin .eql (.t 50) (.t 53)⟩,
              ⟨some 55, none, .pick (.t 44) (.t 54) (.c (.bool false))⟩,
              ⟨some 7, none, .mov (.c (.bool false))⟩,
              ⟨some 8, none, .mov (.t 55)⟩])
             (.seq
              (.seq
               (.reg [⟨some 9, none, .mov (.c (.int .i64 0))⟩])
               (.block 2
                (.loop [0, 1, 5, 6, 7, 8, 9]
                 c6b0)))
              (.seq
               (.reg [⟨some 152, none, .mov (.t 7)⟩,
                ⟨some 153, none, .un .not (.t 152)⟩,
                ⟨some 154, none, .mov (.t 153)⟩,
                ⟨some 155, some (154, false), .mov (.t 8)⟩,
                ⟨some 156, some (154, false), .un .not (.t 155)⟩,
                ⟨some 157, none, .pick (.t 154) (.c (.bool true)) (.t 156)⟩])
               (.cond (.t 157)
                (.seq
                 (.reg [⟨some 4, none, .mov (.c (.bool false))⟩])
                 .ret)
                .skip)))))
           (.reg [⟨some 37, none, .mov (.t 6)⟩,
            ⟨some 38, none, .bin .add (.t 37) (.c (.int .i64 1))⟩,
            ⟨some 6, none, .mov (.t 38)⟩])))
def c6r0 : AC := (.seq
       (.reg [⟨some 158, none, .call false 9 []⟩,
        ⟨some 4, none, .mov (.t 158)⟩])
       .ret)
/-- tracebook/tracebooklaw31.MemoryEnds -/
def c6 : AFn := ⟨2, 159, [.t 4],
 (.seq
  (.reg [⟨some 4, none, .mov (.c (.bool false))⟩])
  (.seq
   (.seq
    (.reg [⟨some 11, none, .mov (.t 0)⟩,
     ⟨some 12, none, .call false 8 [(.t 11)]⟩,
     ⟨some 13, none, .un .not (.t 12)⟩,
     ⟨some 14, none, .mov (.t 13)⟩,
     ⟨some 15, some (14, false), .mov (.t 0)⟩,
     ⟨some 16, some (14, false), .call false 22 [(.t 15)]⟩,
     ⟨some 17, some (14, false), .un .not (.t 16)⟩,
     ⟨some 18, none, .pick (.t 14) (.c (.bool true)) (.t 17)⟩])
    (.cond (.t 18)
     (.seq
      (.reg [⟨some 19, none, .call false 9 []⟩,
       ⟨some 4, none, .mov (.t 19)⟩])
      .ret)
     .skip))
   (.seq
    (.reg [⟨some 20, none, .mov (.t 0)⟩,
     ⟨some 21, none, .mov (.t 1)⟩,
     ⟨some 22, none, .call false 11 [(.t 20), (.t 21)]⟩,
     ⟨some 5, none, .mov (.t 22)⟩])
    (.seq
     (.seq
      (.reg [⟨some 23, none, .mov (.t 5)⟩,
       ⟨some 24, none, .call false 14 [(.t 23)]⟩,
       ⟨some 25, none, .bin .neq (.t 24) (.c (.int .i64 0))⟩,
       ⟨some 26, none, .mov (.t 25)⟩,
       ⟨some 27, some (26, false), .mov (.t 5)⟩,
       ⟨some 28, some (26, false), .len (.t 27)⟩,
       ⟨some 29, some (26, false), .mov (.t 0)⟩,
       ⟨some 30, some (26, false), .call false 23 [(.t 29), (.c (.int .i64 11))]⟩,
       ⟨some 31, some (26, false), .bin .gtr (.t 28) (.t 30)⟩,
       ⟨some 32, none, .pick (.t 26) (.c (.bool true)) (.t 31)⟩])
      (.cond (.t 32)
       (.seq
        (.reg [⟨some 4, none, .mov (.c (.bool false))⟩])
        .ret)
       .skip))
     (.seq
      (.seq
       (.reg [⟨some 6, none, .mov (.c (.int .i64 0))⟩])
       (.block 0
        (.loop [0, 1, 5, 6]
         c6b1)))
      c6r0))))), none⟩
def k6 : List (List Nat) := [[0, 1, 5, 6], [0, 1, 5, 6, 7, 8, 9]]
def o6 : List Nat := [1000030, 1000032, 1000040, 1000045, 1000049, 1000051, 1000052, 1000055, 1000056, 1000057, 1000058, 1000059, 1000060, 1000061, 1000062, 1000065, 1000066, 1000069, 1000070, 1000071, 1000072, 3000000]
def c7b0 : AC := (.seq
           (.seq
            (.reg [⟨some 37, none, .mov (.t 10)⟩,
             ⟨some 38, none, .mov (.t 8)⟩,
             ⟨some 39, none, .len (.t 38)⟩,
             ⟨some 40, none, .bin .lss (.t 37) (.t 39)⟩])
            (.cond (.t 40)
             .skip
             (.exit 0)))
           (.seq
            (.block 1
             (.seq
              (.reg [⟨some 43, none, .mov (.t 8)⟩,
               ⟨some 44, none, .mov (.t 10)⟩,
               ⟨some 45, none, .iaddr (.slice 7) (.t 43) (.t 44)⟩,
               ⟨some 46, none, .load 7 true (.t 45)⟩,
               ⟨some 11, none, .alloc [(.int .i64 0), (.int .i64 0), (.int .i64 0), (.int .i64 0), (.int .i64 0), .nilS, (.bool false)]⟩,
               ⟨none, none, .store 7 (.t 11) (.t 46)⟩])
              (.seq
               (.seq
                (.reg [⟨some 47, none, .faddr 6 (.t 11)⟩,
                 ⟨some 48, none, .load 1 false (.t 47)⟩])
                (.cond (.t 48)
                 (.reg [⟨some 49, none, .mov (.t 0)⟩,
                  ⟨some 50, none, .mov (.t 1)⟩,
                  ⟨some 51, none, .call false 24 [(.t 49), (.t 50)]⟩,
                  ⟨some 52, none, .faddr 3 (.t 11)⟩,
                  ⟨some 53, none, .faddr 1 (.t 52)⟩,
                  ⟨none, none, .store 1 (.t 53) (.t 51)⟩])
                 .skip))
               (.seq
                (.seq
                 (.reg [⟨some 54, none, .faddr 3 (.t 11)⟩,
                  ⟨some 55, none, .faddr 0 (.t 54)⟩,
                  ⟨some 56, none, .load 1 false (.t 55)⟩,
                  ⟨some 57, none, .faddr 3 (.t 11)⟩,
                  ⟨some 58, none, .faddr 1 (.t 57)⟩,
                  ⟨some 59, none, .load 1 false (.t 58)⟩,
                  ⟨some 60, none, .bin .eql (.t 56) (.t 59)⟩])
                 (.cond (.t 60)
                  (.exit 1)
                  .skip))
                (.seq
                 (.seq
                  (.reg [⟨some 61, none, .mov (.t 9)⟩,
                   ⟨some 62, none, .mov (.t 7)⟩,
                   ⟨some 63, none, .len (.t 62)⟩,
                   ⟨some 64, none, .bin .geq (.t 61) (.t 63)⟩,
                   ⟨some 65, none, .mov (.t 64)⟩,
                   ⟨some 66, some (65, false), .mov (.t 7)⟩,
                   ⟨some 67, some (65, false), .mov (.t 9)⟩,
                   ⟨some 68, some (65, false), .iaddr (.slice 7) (.t 66) (.t 67)⟩,
                   ⟨some 69, some (65, false), .load 7 true (.t 68)⟩,
                   ⟨some 70, some (65, false), .load 7 true (.t 11)⟩,
                   ⟨some 71, some (65, false), .call false 26 [(.t 69), (.t 70)]⟩,
                   ⟨some 72, some (65, false), .un .not (.t 71)⟩,
                   ⟨some 73, none, .pick (.t 65) (.c (.bool true)) (.t 72)⟩])
                  (.cond (.t 73)
                   (.seq
                    (.reg [⟨some 6, none, .mov (.c (.bool false))⟩])
                    .ret)
                   .skip))
                 (.reg [⟨some 74, none, .mov (.t 9)⟩,
                  ⟨some 75, none, .bin .add (.t 74) (.c (.int .i64 1))⟩,
                  ⟨some 9, none, .mov (.t 75)⟩]))))))
            (.reg [⟨some 41, none, .mov (.t 10)⟩,
             ⟨some 42, none, .bin .add (.t 41) (.c (.int .i64 1))⟩,
             ⟨some 10, none, .mov (.t 42)⟩])))
def c7r0 : AC := (.seq
        (.reg [⟨some 76, none, .mov (.t 9)⟩,
         ⟨some 77, none, .mov (.t 7)⟩,
         ⟨some 78, none, .len (.t 77)⟩,
         ⟨some 79, none, .bin .eql (.t 76) (.t 78)⟩,
         ⟨some 80, none, .mov (.t 79)⟩,
         ⟨some 81, some (80, true), .call false 9 []⟩,
         ⟨some 82, none, .pick (.t 80) (.t 81) (.c (.bool false))⟩,
         ⟨some 6, none, .mov (.t 82)⟩])
        .ret)
/-- tracebook/tracebooklaw31.MemoryLater -/
def c7 : AFn := ⟨3, 83, [.t 6],
 (.seq
  (.reg [⟨some 6, none, .mov (.c (.bool false))⟩])
  (.seq
   (.seq
    (.reg [⟨some 12, none, .mov (.t 0)⟩,
     ⟨some 13, none, .call false 8 [(.t 12)]⟩,
     ⟨some 14, none, .un .not (.t 13)⟩,
     ⟨some 15, none, .mov (.t 14)⟩,
     ⟨some 16, some (15, false), .mov (.t 0)⟩,
     ⟨some 17, some (15, false), .call false 22 [(.t 16)]⟩,
     ⟨some 18, some (15, false), .un .not (.t 17)⟩,
     ⟨some 19, none, .pick (.t 15) (.c (.bool true)) (.t 18)⟩,
     ⟨some 20, none, .mov (.t 19)⟩,
     ⟨some 21, some (20, false), .mov (.t 2)⟩,
     ⟨some 22, some (20, false), .mov (.t 1)⟩,
     ⟨some 23, some (20, false), .bin .lss (.t 21) (.t 22)⟩,
     ⟨some 24, none, .pick (.t 20) (.c (.bool true)) (.t 23)⟩])
    (.cond (.t 24)
     (.seq
      (.reg [⟨some 25, none, .call false 9 []⟩,
       ⟨some 6, none, .mov (.t 25)⟩])
      .ret)
     .skip))
   (.seq
    (.reg [⟨some 26, none, .mov (.t 0)⟩,
     ⟨some 27, none, .mov (.t 1)⟩,
     ⟨some 28, none, .call false 11 [(.t 26), (.t 27)]⟩,
     ⟨some 29, none, .mov (.t 0)⟩,
     ⟨some 30, none, .mov (.t 2)⟩,
     ⟨some 31, none, .call false 11 [(.t 29), (.t 30)]⟩,
     ⟨some 7, none, .mov (.t 28)⟩,
     ⟨some 8, none, .mov (.t 31)⟩])
    (.seq
     (.seq
      (.reg [⟨some 32, none, .mov (.t 7)⟩,
       ⟨some 33, none, .len (.t 32)⟩,
       ⟨some 34, none, .mov (.t 8)⟩,
       ⟨some 35, none, .len (.t 34)⟩,
       ⟨some 36, none, .bin .gtr (.t 33) (.t 35)⟩])
      (.cond (.t 36)
       (.seq
        (.reg [⟨some 6, none, .mov (.c (.bool false))⟩])
        .ret)
       .skip))
     (.seq
      (.reg [⟨some 9, none, .mov (.c (.int .i64 0))⟩])
      (.seq
       (.seq
        (.reg [⟨some 10, none, .mov (.c (.int .i64 0))⟩])
        (.block 0
         (.loop [0, 1, 7, 8, 9, 10]
          c7b0)))
       c7r0)))))), none⟩
def k7 : List (List Nat) := [[0, 1, 7, 8, 9, 10]]
def o7 : List Nat := [1000030, 1000032, 1000040, 1000045, 1000049, 1000051, 1000052, 1000055, 1000056, 1000057, 1000058, 1000059, 1000060, 1000061, 1000062, 1000065, 1000066, 1000069, 1000070, 1000071, 1000072, 3000000]
def c8b0 : AC := (.seq
        (.seq
         (.reg [⟨some 7, none, .mov (.t 3)⟩,
          ⟨some 8, none, .mov (.t 0)⟩,
          ⟨some 9, none, .len (.t 8)⟩,
          ⟨some 10, none, .bin .lss (.t 7) (.t 9)⟩])
         (.cond (.t 10)
          .skip
          (.exit 0)))
        (.seq
         (.block 1
          (.seq
           (.reg [⟨some 13, none, .mov (.t 0)⟩,
            ⟨some 14, none, .mov (.t 3)⟩,
            ⟨some 15, none, .iaddr (.slice 10) (.t 13) (.t 14)⟩,
            ⟨some 16, none, .faddr 2 (.t 15)⟩,
            ⟨some 17, none, .faddr 5 (.t 16)⟩,
            ⟨some 18, none, .load 1 false (.t 17)⟩,
            ⟨some 19, none, .len (.t 18)⟩,
            ⟨some 20, none, .bin .gtr (.t 19) (.c (.int .i64 60))⟩])
           (.cond (.t 20)
            (.seq
             (.reg [⟨some 2, none, .mov (.c (.bool false))⟩])
             .ret)
            .skip)))
         (.reg [⟨some 11, none, .mov (.t 3)⟩,
          ⟨some 12, none, .bin .add (.t 11) (.c (.int .i64 1))⟩,
          ⟨some 3, none, .mov (.t 12)⟩])))
/-- tracebook/tracebooklaw31.small -/
def c8 : AFn := ⟨1, 21, [.t 2],
 (.seq
  (.reg [⟨some 2, none, .mov (.c (.bool false))⟩])
  (.seq
   (.seq
    (.reg [⟨some 4, none, .mov (.t 0)⟩,
     ⟨some 5, none, .len (.t 4)⟩,
     ⟨some 6, none, .bin .gtr (.t 5) (.c (.int .i64 200))⟩])
    (.cond (.t 6)
     (.seq
      (.reg [⟨some 2, none, .mov (.c (.bool false))⟩])
      .ret)
     .skip))
   (.seq
    (.seq
     (.reg [⟨some 3, none, .mov (.c (.int .i64 0))⟩])
     (.block 0
      (.loop [0, 3]
       c8b0)))
    (.seq
     (.reg [⟨some 2, none, .mov (.c (.bool true))⟩])
     .ret)))), none⟩
def k8 : List (List Nat) := [[0, 3]]
def o8 : List Nat := [1000030, 1000032, 1000040, 1000045, 1000049, 1000051, 1000052, 1000055, 1000056, 1000057, 1000058, 1000059, 1000060, 1000061, 1000062, 1000065, 1000066, 1000069, 1000070, 1000071, 1000072, 3000000]
/-- tracebook/tracebooklaw31.awake -/
def c9 : AFn := ⟨0, 138, [.t 0],
 (.seq
  (.reg [⟨some 0, none, .mov (.c (.bool false))⟩])
  (.seq
   (.reg [⟨some 8, none, .call false 27 [(.c (.int .i64 1)), (.c (.int .i64 10)), (.c (.int .i64 11)), (.c (.int .i64 5)), (.c (.int .i64 100))]⟩,
    ⟨some 9, none, .call false 27 [(.c (.int .i64 1)), (.c (.int .i64 15)), (.c (.int .i64 11)), (.c (.int .i64 6)), (.c (.int .i64 50))]⟩,
    ⟨some 10, none, .call false 27 [(.c (.int .i64 2)), (.c (.int .i64 20)), (.c (.int .i64 12)), (.c (.int .i64 5)), (.c (.int .i64 0))]⟩,
    ⟨some 11, none, .bslice false 10 [(.int .i64 0), (.int .i64 0), (.int .i64 0), (.int .i64 0), (.str []), (.int .i64 0), (.int .i64 0), .nilS, (.int .i64 0), (.int .i64 0)] 3 [(0, (.t 8)), (1, (.t 9)), (2, (.t 10))]⟩,
    ⟨some 1, none, .mov (.t 11)⟩])
   (.seq
    (.reg [⟨some 12, none, .mov (.t 1)⟩,
     ⟨some 13, none, .call false 11 [(.t 12), (.c (.int .i64 30))]⟩,
     ⟨some 2, none, .mov (.t 13)⟩])
    (.seq
     (.reg [⟨some 15, none, .mov (.t 2)⟩,
      ⟨some 16, none, .call false 18 [(.t 15)]⟩,
      ⟨some 14, none, .mov (.t 16)⟩,
      ⟨some 17, none, .ext (.t 14) 0⟩,
      ⟨some 18, none, .ext (.t 14) 1⟩,
      ⟨some 3, none, .mov (.t 17)⟩,
      ⟨some 4, none, .mov (.t 18)⟩])
     (.seq
      (.reg [⟨some 19, none, .mov (.t 2)⟩,
       ⟨some 20, none, .call false 16 [(.t 19)]⟩,
       ⟨some 5, none, .mov (.t 20)⟩])
      (.seq
       (.reg [⟨some 21, none, .call false 27 [(.c (.int .i64 1)), (.c (.int .i64 10)), (.c (.int .i64 11)), (.c (.int .i64 5)), (.c (.int .i64 100))]⟩,
        ⟨some 22, none, .call false 27 [(.c (.int .i64 1)), (.c (.int .i64 10)), (.c (.int .i64 12)), (.c (.int .i64 5)), (.c (.int .i64 0))]⟩,
        ⟨some 23, none, .call false 27 [(.c (.int .i64 1)), (.c (.int .i64 11)), (.c (.int .i64 12)), (.c (.int .i64 7)), (.c (.int .i64 0))]⟩,
        ⟨some 24, none, .bslice false 10 [(.int .i64 0), (.int .i64 0), (.int .i64 0), (.int .i64 0), (.str []), (.int .i64 0), (.int .i64 0), .nilS, (.int .i64 0), (.int .i64 0)] 3 [(0, (.t 21)), (1, (.t 22)), (2, (.t 23))]⟩,
        ⟨some 25, none, .call false 11 [(.t 24), (.c (.int .i64 0))]⟩,
        ⟨some 6, none, .mov (.t 25)⟩])
       (.seq
        (.reg [⟨some 26, none, .call false 27 [(.c (.int .i64 1)), (.c (.int .i64 10)), (.c (.int .i64 11)), (.c (.int .i64 5)), (.c (.int .i64 100))]⟩,
         ⟨some 27, none, .call false 27 [(.c (.int .i64 1)), (.c (.int .i64 12)), (.c (.int .i64 11)), (.c (.int .i64 5)), (.c (.int .i64 7))]⟩,
         ⟨some 28, none, .bslice false 10 [(.int .i64 0), (.int .i64 0), (.int .i64 0), (.int .i64 0), (.str []), (.int .i64 0), (.int .i64 0), .nilS, (.int .i64 0), (.int .i64 0)] 2 [(0, (.t 26)), (1, (.t 27))]⟩,
         ⟨some 29, none, .call false 11 [(.t 28), (.c (.int .i64 20))]⟩,
         ⟨some 7, none, .mov (.t 29)⟩])
        (.seq
         (.reg [⟨some 30, none, .mov (.t 2)⟩,
          ⟨some 31, none, .len (.t 30)⟩,
          ⟨some 32, none, .bin .eql (.t 31) (.c (.int .i64 2))⟩,
          ⟨some 33, none, .mov (.t 32)⟩,
          ⟨some 34, some (33, true), .mov (.t 2)⟩,
          ⟨some 35, some (33, true), .iaddr (.slice 7) (.t 34) (.c (.int .i64 0))⟩,
          ⟨some 36, some (33, true), .faddr 3 (.t 35)⟩,
          ⟨some 37, some (33, true), .load 2 true (.t 36)⟩,
          ⟨some 38, some (33, true), .build [(.int .i64 0), (.int .i64 0)] [(0, 1, (.c (.int .i64 10))), (1, 1, (.c (.int .i64 20)))]⟩,
          ⟨some 39, some (33, true), .beqA false [.i, .i] (.t 37) (.t 38)⟩,
          ⟨some 40, none, .pick (.t 33) (.t 39) (.c (.bool false))⟩,
          ⟨some 41, none, .mov (.t 40)⟩,
          ⟨some 42, some (41, true), .mov (.t 2)⟩,
          ⟨some 43, some (41, true), .iaddr (.slice 7) (.t 42) (.c (.int .i64 0))⟩,
          ⟨some 44, some (41, true), .faddr 6 (.t 43)⟩,
          ⟨some 45, some (41, true), .load 1 false (.t 44)⟩,
          ⟨some 46, some (41, true), .un .not (.t 45)⟩,
          ⟨some 47, none, .pick (.t 41) (.t 46) (.c (.bool false))⟩,
          ⟨some 48, none, .mov (.t 47)⟩,
          ⟨some 49, some (48, true), .mov (.t 2)⟩,
          ⟨some 50, some (48, true), .iaddr (.slice 7) (.t 49) (.c (.int .i64 1))⟩,
          ⟨some 51, some (48, true), .faddr 3 (.t 50)⟩,
          ⟨some 52, some (48, true), .load 2 true (.t 51)⟩,
          ⟨some 53, some (48, true), .build [(.int .i64 0), (.int .i64 0)] [(0, 1, (.c (.int .i64 15))), (1, 1, (.c (.int .i64 30)))]⟩,
          ⟨some 54, some (48, true), .beqA false [.i, .i] (.t 52) (.t 53)⟩,
          ⟨some 55, none, .pick (.t 48) (.t 54) (.c (.bool false))⟩,
          ⟨some 56, none, .mov (.t 55)⟩,
          ⟨some 57, some (56, true), .mov (.t 2)⟩,
          ⟨some 58, some (56, true), .iaddr (.slice 7) (.t 57) (.c (.int .i64 1))⟩,
          ⟨some 59, some (56, true), .faddr 6 (.t 58)⟩,
          ⟨some 60, some (56, true), .load 1 false (.t 59)⟩,
          ⟨some 61, none, .pick (.t 56) (.t 60) (.c (.bool false))⟩,
          ⟨some 62, none, .mov (.t 61)⟩,
          ⟨some 63, some (62, true), .mov (.t 2)⟩,
          ⟨some 64, some (62, true), .call false 20 [(.t 63), (.c (.int .i64 9))]⟩,
          ⟨some 65, some (62, true), .bin .eql (.t 64) (.c (.int .i64 0))⟩,
          ⟨some 66, none, .pick (.t 62) (.t 65) (.c (.bool false))⟩,
          ⟨some 67, none, .mov (.t 66)⟩,
          ⟨some 68, some (67, true), .mov (.t 2)⟩,
          ⟨some 69, some (67, true), .call false 20 [(.t 68), (.c (.int .i64 10))]⟩,
          ⟨some 70, some (67, true), .bin .eql (.t 69) (.c (.int .i64 100))⟩,
          ⟨some 71, none, .pick (.t 67) (.t 70) (.c (.bool false))⟩,
          ⟨some 72, none, .mov (.t 71)⟩,
          ⟨some 73, some (72, true), .mov (.t 2)⟩,
          ⟨some 74, some (72, true), .call false 20 [(.t 73), (.c (.int .i64 15))]⟩,
          ⟨some 75, some (72, true), .bin .eql (.t 74) (.c (.int .i64 150))⟩,
          ⟨some 76, none, .pick (.t 72) (.t 75) (.c (.bool false))⟩,
          ⟨some 77, none, .mov (.t 76)⟩,
          ⟨some 78, some (77, true), .mov (.t 2)⟩,
          ⟨some 79, some (77, true), .call false 20 [(.t 78), (.c (.int .i64 20))]⟩,
          ⟨some 80, some (77, true), .bin .eql (.t 79) (.c (.int .i64 50))⟩,
          ⟨some 81, none, .pick (.t 77) (.t 80) (.c (.bool false))⟩,
          ⟨some 82, none, .mov (.t 81)⟩,
          ⟨some 83, some (82, true), .mov (.t 3)⟩,
          ⟨some 84, some (82, true), .bin .eql (.t 83) (.c (.int .i64 15))⟩,
          ⟨some 85, none, .pick (.t 82) (.t 84) (.c (.bool false))⟩,
          ⟨some 86, none, .mov (.t 85)⟩,
          ⟨some 87, some (86, true), .mov (.t 4)⟩,
          ⟨some 88, some (86, true), .bin .eql (.t 87) (.c (.int .i64 150))⟩,
          ⟨some 89, none, .pick (.t 86) (.t 88) (.c (.bool false))⟩,
          ⟨some 90, none, .mov (.t 89)⟩,
          ⟨some 91, some (90, true), .mov (.t 5)⟩,
          ⟨some 92, some (90, true), .len (.t 91)⟩,
          ⟨some 93, some (90, true), .bin .eql (.t 92) (.c (.int .i64 1))⟩,
          ⟨some 94, none, .pick (.t 90) (.t 93) (.c (.bool false))⟩,
          ⟨some 95, none, .mov (.t 94)⟩,
          ⟨some 96, some (95, true), .mov (.t 5)⟩,
          ⟨some 97, some (95, true), .iaddr (.slice 7) (.t 96) (.c (.int .i64 0))⟩,
          ⟨some 98, some (95, true), .faddr 0 (.t 97)⟩,
          ⟨some 99, some (95, true), .load 1 false (.t 98)⟩,
          ⟨some 100, some (95, true), .bin .eql (.t 99) (.c (.int .i64 6))⟩,
          ⟨some 101, none, .pick (.t 95) (.t 100) (.c (.bool false))⟩,
          ⟨some 102, none, .mov (.t 101)⟩,
          ⟨some 103, some (102, true), .mov (.t 2)⟩,
          ⟨some 104, some (102, true), .call false 14 [(.t 103)]⟩,
          ⟨some 105, some (102, true), .bin .eql (.t 104) (.c (.int .i64 0))⟩,
          ⟨some 106, none, .pick (.t 102) (.t 105) (.c (.bool false))⟩,
          ⟨some 107, none, .mov (.t 106)⟩,
          ⟨some 108, some (107, true), .mov (.t 6)⟩,
          ⟨some 109, some (107, true), .len (.t 108)⟩,
          ⟨some 110, some (107, true), .bin .eql (.t 109) (.c (.int .i64 0))⟩,
          ⟨some 111, none, .pick (.t 107) (.t 110) (.c (.bool false))⟩,
          ⟨some 112, none, .mov (.t 111)⟩,
          ⟨some 113, some (112, true), .mov (.t 7)⟩,
          ⟨some 114, some (112, true), .len (.t 113)⟩,
          ⟨some 115, some (112, true), .bin .eql (.t 114) (.c (.int .i64 2))⟩,
          ⟨some 116, none, .pick (.t 112) (.t 115) (.c (.bool false))⟩,
          ⟨some 117, none, .mov (.t 116)⟩,
          ⟨some 118, some (117, true), .mov (.t 7)⟩,
          ⟨some 119, some (117, true), .iaddr (.slice 7) (.t 118) (.c (.int .i64 0))⟩,
          ⟨some 120, some (117, true), .faddr 3 (.t 119)⟩,
          ⟨some 121, some (117, true), .load 2 true (.t 120)⟩,
          ⟨some 122, some (117, true), .build [(.int .i64 0), (.int .i64 0)] [(0, 1, (.c (.int .i64 10))), (1, 1, (.c (.int .i64 12)))]⟩,
          ⟨some 123, some (117, true), .beqA false [.i, .i] (.t 121) (.t 122)⟩,
          ⟨some 124, none, .pick (.t 117) (.t 123) (.c (.bool false))⟩,
          ⟨some 125, none, .mov (.t 124)⟩,
          ⟨some 126, some (125, true), .mov (.t 7)⟩,
          ⟨some 127, some (125, true), .iaddr (.slice 7) (.t 126) (.c (.int .i64 0))⟩,
          ⟨some 128, some (125, true), .faddr 6 (.t 127)⟩,
          ⟨some 129, some (125, true), .load 1 false (.t 128)⟩,
          ⟨some 130, some (125, true), .un .not (.t 129)⟩,
          ⟨some 131, none, .pick (.t 125) (.t 130) (.c (.bool false))⟩,
          ⟨some 132, none, .mov (.t 131)⟩,
          ⟨some 133, some (132, true), .mov (.t 7)⟩,
          ⟨some 134, some (132, true), .iaddr (.slice 7) (.t 133) (.c (.int .i64 1))⟩,
          ⟨some 135, some (132, true), .faddr 6 (.t 134)⟩,
          ⟨some 136, some (132, true), .load 1 false (.t 135)⟩,
          ⟨some 137, none, .pick (.t 132) (.t 136) (.c (.bool false))⟩,
          ⟨some 0, none, .mov (.t 137)⟩])
         .ret)))))))), none⟩
def k9 : List (List Nat) := []
def o9 : List Nat := [1000030, 1000032, 1000040, 1000045, 1000049, 1000051, 1000052, 1000055, 1000056, 1000057, 1000058, 1000059, 1000060, 1000061, 1000062, 1000065, 1000066, 1000069, 1000070, 1000071, 1000072, 3000000]
def c10b0 : AC := (.seq
        (.seq
         (.reg [⟨some 11, none, .mov (.t 5)⟩,
          ⟨some 12, none, .mov (.t 0)⟩,
          ⟨some 13, none, .len (.t 12)⟩,
          ⟨some 14, none, .bin .lss (.t 11) (.t 13)⟩])
         (.cond (.t 14)
          .skip
          (.exit 0)))
        (.seq
         (.block 1
          (.seq
           (.reg [⟨some 17, none, .mov (.t 0)⟩,
            ⟨some 18, none, .mov (.t 5)⟩,
            ⟨some 19, none, .iaddr (.slice 7) (.t 17) (.t 18)⟩,
            ⟨some 20, none, .load 7 true (.t 19)⟩,
            ⟨some 21, none, .mov (.t 1)⟩,
            ⟨some 22, none, .mov (.t 5)⟩,
            ⟨some 23, none, .iaddr (.slice 7) (.t 21) (.t 22)⟩,
            ⟨some 24, none, .load 7 true (.t 23)⟩,
            ⟨some 25, none, .call false 26 [(.t 20), (.t 24)]⟩,
            ⟨some 26, none, .un .not (.t 25)⟩])
           (.cond (.t 26)
            (.seq
             (.reg [⟨some 4, none, .mov (.c (.bool false))⟩])
             .ret)
            .skip)))
         (.reg [⟨some 15, none, .mov (.t 5)⟩,
          ⟨some 16, none, .bin .add (.t 15) (.c (.int .i64 1))⟩,
          ⟨some 5, none, .mov (.t 16)⟩])))
/-- tracebook/tracebookref31.Same -/
def c10 : AFn := ⟨2, 27, [.t 4],
 (.seq
  (.reg [⟨some 4, none, .mov (.c (.bool false))⟩])
  (.seq
   (.seq
    (.reg [⟨some 6, none, .mov (.t 0)⟩,
     ⟨some 7, none, .len (.t 6)⟩,
     ⟨some 8, none, .mov (.t 1)⟩,
     ⟨some 9, none, .len (.t 8)⟩,
     ⟨some 10, none, .bin .neq (.t 7) (.t 9)⟩])
    (.cond (.t 10)
     (.seq
      (.reg [⟨some 4, none, .mov (.c (.bool false))⟩])
      .ret)
     .skip))
   (.seq
    (.seq
     (.reg [⟨some 5, none, .mov (.c (.int .i64 0))⟩])
     (.block 0
      (.loop [0, 1, 5]
       c10b0)))
    (.seq
     (.reg [⟨some 4, none, .mov (.c (.bool true))⟩])
     .ret)))), none⟩
def k10 : List (List Nat) := [[0, 1, 5]]
def o10 : List Nat := [1000030, 1000032, 1000040, 1000045, 1000049, 1000051, 1000052, 1000055, 1000056, 1000057, 1000058, 1000059, 1000060, 1000061, 1000062, 1000065, 1000066, 1000069, 1000070, 1000071, 1000072, 3000000]
def c11b0 : AC := (.seq
          (.reg [⟨some 19, none, .bin .lss (.t 18) (.t 17)⟩])
          (.seq
           (.cond (.t 19)
            .skip
            (.exit 0))
           (.seq
            (.block 1
             (.seq
              (.reg [⟨some 20, none, .iaddr (.slice 10) (.t 16) (.t 18)⟩,
               ⟨some 21, none, .load 10 true (.t 20)⟩,
               ⟨some 8, none, .alloc [(.int .i64 0), (.int .i64 0), (.int .i64 0), (.int .i64 0), (.str []), (.int .i64 0), (.int .i64 0), .nilS, (.int .i64 0), (.int .i64 0)]⟩,
               ⟨none, none, .store 10 (.t 8) (.t 21)⟩])
              (.seq
               (.seq
                (.reg [⟨some 22, none, .faddr 2 (.t 8)⟩,
                 ⟨some 23, none, .faddr 1 (.t 22)⟩,
                 ⟨some 24, none, .load 1 false (.t 23)⟩,
                 ⟨some 25, none, .bin .neq (.t 24) (.c (.int .i64 11))⟩,
                 ⟨some 26, none, .mov (.t 25)⟩,
                 ⟨some 27, some (26, true), .faddr 2 (.t 8)⟩,
                 ⟨some 28, some (26, true), .faddr 1 (.t 27)⟩,
                 ⟨some 29, some (26, true), .load 1 false (.t 28)⟩,
                 ⟨some 30, some (26, true), .bin .neq (.t 29) (.c (.int .i64 12))⟩,
                 ⟨some 31, none, .pick (.t 26) (.t 30) (.c (.bool false))⟩])
                (.cond (.t 31)
                 (.exit 1)
                 .skip))
               (.seq
                (.seq
                 (.reg [⟨some 33, none, .mov (.t 6)⟩,
                  ⟨some 34, none, .faddr 2 (.t 8)⟩,
                  ⟨some 35, none, .faddr 3 (.t 34)⟩,
                  ⟨some 36, none, .load 1 false (.t 35)⟩,
                  ⟨some 37, none, .mget true [.i] false (.int .i64 0) (.t 33) (.t 36)⟩,
                  ⟨some 32, none, .mov (.t 37)⟩,
                  ⟨some 38, none, .ext (.t 32) 0⟩,
                  ⟨some 39, none, .ext (.t 32) 1⟩,
                  ⟨some 9, none, .mov (.t 38)⟩,
                  ⟨some 10, none, .mov (.t 39)⟩])
                 (.seq
                  (.reg [⟨some 40, none, .mov (.t 10)⟩])
                  (.cond (.t 40)
                   (.seq
                    (.reg [⟨some 41, none, .mov (.t 5)⟩,
                     ⟨some 42, none, .mov (.t 9)⟩,
                     ⟨some 43, none, .load 10 true (.t 8)⟩,
                     ⟨some 44, none, .call false 29 [(.t 43)]⟩,
                     ⟨some 45, none, .iaddr (.slice 7) (.t 41) (.t 42)⟩,
                     ⟨some 46, none, .faddr 3 (.t 45)⟩,
                     ⟨some 47, none, .faddr 1 (.t 46)⟩,
                     ⟨none, none, .store 1 (.t 47) (.t 44)⟩])
                    (.seq
                     (.reg [⟨some 48, none, .mov (.t 5)⟩,
                      ⟨some 49, none, .mov (.t 9)⟩,
                      ⟨some 50, none, .iaddr (.slice 7) (.t 48) (.t 49)⟩,
                      ⟨some 51, none, .faddr 6 (.t 50)⟩,
                      ⟨none, none, .store 1 (.t 51) (.c (.bool false))⟩])
                     (.reg [⟨some 52, none, .mov (.t 6)⟩,
                      ⟨some 53, none, .faddr 2 (.t 8)⟩,
                      ⟨some 54, none, .faddr 3 (.t 53)⟩,
                      ⟨some 55, none, .load 1 false (.t 54)⟩,
                      ⟨none, none, .mdel [.i] false (.t 52) (.t 55)⟩])))
                   .skip)))
                (.seq
                 (.reg [⟨some 56, none, .faddr 2 (.t 8)⟩,
                  ⟨some 57, none, .faddr 1 (.t 56)⟩,
                  ⟨some 58, none, .load 1 false (.t 57)⟩,
                  ⟨some 59, none, .bin .eql (.t 58) (.c (.int .i64 11))⟩])
                 (.cond (.t 59)
                  (.seq
                   (.reg [⟨some 60, none, .mov (.t 6)⟩,
                    ⟨some 61, none, .faddr 2 (.t 8)⟩,
                    ⟨some 62, none, .faddr 3 (.t 61)⟩,
                    ⟨some 63, none, .load 1 false (.t 62)⟩,
                    ⟨some 64, none, .mov (.t 5)⟩,
                    ⟨some 65, none, .len (.t 64)⟩,
                    ⟨none, none, .mset [.i] false (.t 60) (.t 63) (.t 65)⟩])
                   (.reg [⟨some 66, none, .mov (.t 5)⟩,
                    ⟨some 67, none, .faddr 2 (.t 8)⟩,
                    ⟨some 68, none, .faddr 3 (.t 67)⟩,
                    ⟨some 69, none, .load 1 false (.t 68)⟩,
                    ⟨some 70, none, .faddr 0 (.t 8)⟩,
                    ⟨some 71, none, .faddr 0 (.t 70)⟩,
                    ⟨some 72, none, .load 1 false (.t 71)⟩,
                    ⟨some 73, none, .faddr 2 (.t 8)⟩,
                    ⟨some 74, none, .faddr 4 (.t 73)⟩,
                    ⟨some 75, none, .load 1 false (.t 74)⟩,
                    ⟨some 76, none, .load 10 true (.t 8)⟩,
                    ⟨some 77, none, .call false 29 [(.t 76)]⟩,
                    ⟨some 78, none, .mov (.t 1)⟩,
                    ⟨some 79, none, .build [(.int .i64 0), (.int .i64 0)] [(0, 1, (.t 77)), (1, 1, (.t 78))]⟩,
                    ⟨some 80, none, .faddr 2 (.t 8)⟩,
                    ⟨some 81, none, .faddr 5 (.t 80)⟩,
                    ⟨some 82, none, .load 1 false (.t 81)⟩,
                    ⟨some 83, none, .build [(.int .i64 0), (.int .i64 0), (.int .i64 0), (.int .i64 0), (.int .i64 0), .nilS, (.bool false)] [(0, 1, (.t 69)), (1, 1, (.t 72)), (2, 1, (.t 75)), (3, 2, (.t 79)), (5, 1, (.t 82)), (6, 1, (.c (.bool true)))]⟩,
                    ⟨some 84, none, .bslice false 7 [(.int .i64 0), (.int .i64 0), (.int .i64 0), (.int .i64 0), (.int .i64 0), .nilS, (.bool false)] 1 [(0, (.t 83))]⟩,
                    ⟨some 85, none, .append 7 72 (.t 66) (.t 84)⟩,
                    ⟨some 5, none, .mov (.t 85)⟩]))
                  .skip))))))
            (.reg [⟨some 86, none, .bin .add (.t 18) (.c (.int .i64 1))⟩,
             ⟨some 18, none, .mov (.t 86)⟩]))))
def c11r0 : AC := (.seq
       (.reg [⟨some 87, none, .mov (.t 5)⟩,
        ⟨some 88, none, .callS 30 [(.t 87), (.c (.fn 31 []))]⟩,
        ⟨some 11, none, .mov (.t 88)⟩])
       (.seq
        (.reg [⟨some 89, none, .mov (.t 11)⟩,
         ⟨some 90, none, .callS 32 [(.t 89), (.c (.fn 33 []))]⟩])
        (.seq
         (.reg [⟨some 91, none, .mov (.t 11)⟩,
          ⟨some 4, none, .mov (.t 91)⟩])
         .ret)))
/-- tracebook/memory.Of -/
def c11 : AFn := ⟨2, 92, [.t 4],
 (.seq
  (.reg [⟨some 4, none, .nilv 7⟩])
  (.seq
   (.reg [⟨some 12, none, .mov (.t 0)⟩,
    ⟨some 13, none, .mov (.t 1)⟩,
    ⟨some 14, none, .call false 28 [(.t 12), (.t 13)]⟩,
    ⟨some 1, none, .mov (.t 14)⟩])
   (.seq
    (.reg [⟨some 5, none, .nilv 7⟩])
    (.seq
     (.reg [⟨some 15, none, .mkmap none⟩,
      ⟨some 6, none, .mov (.t 15)⟩])
     (.seq
      (.seq
       (.reg [⟨some 16, none, .mov (.t 0)⟩,
        ⟨some 17, none, .len (.t 16)⟩,
        ⟨some 18, none, .mov (.c (.int .i64 0))⟩])
       (.block 0
        (.loop [1, 5, 6, 16, 17, 18]
         c11b0)))
      c11r0))))), none⟩
def k11 : List (List Nat) := [[1, 5, 6, 16, 17, 18]]
def o11 : List Nat := [1000030, 1000032, 1000040, 1000045, 1000049, 1000051, 1000052, 1000055, 1000056, 1000057, 1000058, 1000059, 1000060, 1000061, 1000062, 1000065, 1000066, 1000069, 1000070, 1000071, 1000072, 3000000]
def c12b0 : AC := (.seq
        (.seq
         (.reg [⟨some 8, none, .mov (.t 6)⟩,
          ⟨some 9, none, .mov (.t 0)⟩,
          ⟨some 10, none, .len (.t 9)⟩,
          ⟨some 11, none, .bin .lss (.t 8) (.t 10)⟩])
         (.cond (.t 11)
          .skip
          (.exit 0)))
        (.seq
         (.block 1
          (.seq
           (.seq
            (.reg [⟨some 14, none, .mov (.t 0)⟩,
             ⟨some 15, none, .mov (.t 6)⟩,
             ⟨some 16, none, .iaddr (.slice 10) (.t 14) (.t 15)⟩,
             ⟨some 17, none, .faddr 2 (.t 16)⟩,
             ⟨some 18, none, .faddr 1 (.t 17)⟩,
             ⟨some 19, none, .load 1 false (.t 18)⟩,
             ⟨some 20, none, .bin .neq (.t 19) (.c (.int .i64 11))⟩])
            (.cond (.t 20)
             (.exit 1)
             .skip))
           (.seq
            (.reg [⟨some 21, none, .mov (.t 0)⟩,
             ⟨some 22, none, .mov (.t 6)⟩,
             ⟨some 23, none, .mov (.t 1)⟩,
             ⟨some 24, none, .call false 35 [(.t 21), (.t 22), (.t 23)]⟩,
             ⟨some 7, none, .alloc [(.int .i64 0), (.int .i64 0), (.int .i64 0), (.int .i64 0), (.int .i64 0), .nilS, (.bool false)]⟩,
             ⟨none, none, .store 7 (.t 7) (.t 24)⟩])
            (.seq
             (.reg [⟨some 25, none, .faddr 3 (.t 7)⟩,
              ⟨some 26, none, .faddr 0 (.t 25)⟩,
              ⟨some 27, none, .load 1 false (.t 26)⟩,
              ⟨some 28, none, .faddr 3 (.t 7)⟩,
              ⟨some 29, none, .faddr 1 (.t 28)⟩,
              ⟨some 30, none, .load 1 false (.t 29)⟩,
              ⟨some 31, none, .bin .lss (.t 27) (.t 30)⟩])
             (.cond (.t 31)
              (.reg [⟨some 32, none, .mov (.t 5)⟩,
               ⟨some 33, none, .load 7 true (.t 7)⟩,
               ⟨some 34, none, .call false 36 [(.t 32), (.t 33)]⟩,
               ⟨some 5, none, .mov (.t 34)⟩])
              .skip)))))
         (.reg [⟨some 12, none, .mov (.t 6)⟩,
          ⟨some 13, none, .bin .add (.t 12) (.c (.int .i64 1))⟩,
          ⟨some 6, none, .mov (.t 13)⟩])))
/-- tracebook/tracebookref31.Of -/
def c12 : AFn := ⟨2, 36, [.t 4],
 (.seq
  (.reg [⟨some 4, none, .nilv 7⟩])
  (.seq
   (.reg [⟨some 5, none, .nilv 7⟩])
   (.seq
    (.seq
     (.reg [⟨some 6, none, .mov (.c (.int .i64 0))⟩])
     (.block 0
      (.loop [0, 1, 5, 6]
       c12b0)))
    (.seq
     (.reg [⟨some 35, none, .mov (.t 5)⟩,
      ⟨some 4, none, .mov (.t 35)⟩])
     .ret)))), none⟩
def k12 : List (List Nat) := [[0, 1, 5, 6]]
def o12 : List Nat := [1000030, 1000032, 1000040, 1000045, 1000049, 1000051, 1000052, 1000055, 1000056, 1000057, 1000058, 1000059, 1000060, 1000061, 1000062, 1000065, 1000066, 1000069, 1000070, 1000071, 1000072, 3000000]
def c13b0 : AC := (.seq
        (.seq
         (.reg [⟨some 7, none, .mov (.t 3)⟩,
          ⟨some 8, none, .mov (.t 0)⟩,
          ⟨some 9, none, .len (.t 8)⟩,
          ⟨some 10, none, .bin .lss (.t 7) (.t 9)⟩])
         (.cond (.t 10)
          .skip
          (.exit 0)))
        (.seq
         (.block 1
          (.seq
           (.reg [⟨some 13, none, .mov (.t 0)⟩,
            ⟨some 14, none, .mov (.t 3)⟩,
            ⟨some 15, none, .iaddr (.slice 7) (.t 13) (.t 14)⟩,
            ⟨some 16, none, .faddr 5 (.t 15)⟩,
            ⟨some 17, none, .load 1 false (.t 16)⟩,
            ⟨some 18, none, .len (.t 17)⟩,
            ⟨some 19, none, .bin .gtr (.t 18) (.c (.int .i64 60))⟩])
           (.cond (.t 19)
            (.seq
             (.reg [⟨some 2, none, .mov (.c (.bool false))⟩])
             .ret)
            .skip)))
         (.reg [⟨some 11, none, .mov (.t 3)⟩,
          ⟨some 12, none, .bin .add (.t 11) (.c (.int .i64 1))⟩,
          ⟨some 3, none, .mov (.t 12)⟩])))
/-- tracebook/tracebooklaw31.few -/
def c13 : AFn := ⟨1, 20, [.t 2],
 (.seq
  (.reg [⟨some 2, none, .mov (.c (.bool false))⟩])
  (.seq
   (.seq
    (.reg [⟨some 4, none, .mov (.t 0)⟩,
     ⟨some 5, none, .len (.t 4)⟩,
     ⟨some 6, none, .bin .gtr (.t 5) (.c (.int .i64 200))⟩])
    (.cond (.t 6)
     (.seq
      (.reg [⟨some 2, none, .mov (.c (.bool false))⟩])
      .ret)
     .skip))
   (.seq
    (.seq
     (.reg [⟨some 3, none, .mov (.c (.int .i64 0))⟩])
     (.block 0
      (.loop [0, 3]
       c13b0)))
    (.seq
     (.reg [⟨some 2, none, .mov (.c (.bool true))⟩])
     .ret)))), none⟩
def k13 : List (List Nat) := [[0, 3]]
def o13 : List Nat := [1000030, 1000032, 1000040, 1000045, 1000049, 1000051, 1000052, 1000055, 1000056, 1000057, 1000058, 1000059, 1000060, 1000061, 1000062, 1000065, 1000066, 1000069, 1000070, 1000071, 1000072, 3000000]
def c14b0 : AC := (.seq
        (.reg [⟨some 11, none, .bin .lss (.t 10) (.t 9)⟩])
        (.seq
         (.cond (.t 11)
          .skip
          (.exit 0))
         (.seq
          (.block 1
           (.seq
            (.reg [⟨some 12, none, .mov (.t 10)⟩,
             ⟨some 13, none, .iaddr (.slice 7) (.t 8) (.t 10)⟩,
             ⟨some 14, none, .load 7 true (.t 13)⟩,
             ⟨some 5, none, .alloc [(.int .i64 0), (.int .i64 0), (.int .i64 0), (.int .i64 0), (.int .i64 0), .nilS, (.bool false)]⟩,
             ⟨some 4, none, .mov (.t 12)⟩,
             ⟨none, none, .store 7 (.t 5) (.t 14)⟩])
            (.seq
             (.seq
              (.reg [⟨some 15, none, .faddr 0 (.t 5)⟩,
               ⟨some 16, none, .load 1 false (.t 15)⟩,
               ⟨some 17, none, .bin .lss (.t 16) (.c (.int .i64 0))⟩,
               ⟨some 18, none, .mov (.t 17)⟩,
               ⟨some 19, some (18, false), .faddr 0 (.t 5)⟩,
               ⟨some 20, some (18, false), .load 1 false (.t 19)⟩,
               ⟨some 21, some (18, false), .bin .gtr (.t 20) (.c (.int .i64 1000000000000000))⟩,
               ⟨some 22, none, .pick (.t 18) (.c (.bool true)) (.t 21)⟩,
               ⟨some 23, none, .mov (.t 22)⟩,
               ⟨some 24, some (23, false), .faddr 1 (.t 5)⟩,
               ⟨some 25, some (23, false), .load 1 false (.t 24)⟩,
               ⟨some 26, some (23, false), .bin .lss (.t 25) (.c (.int .i64 0))⟩,
               ⟨some 27, none, .pick (.t 23) (.c (.bool true)) (.t 26)⟩,
               ⟨some 28, none, .mov (.t 27)⟩,
               ⟨some 29, some (28, false), .faddr 1 (.t 5)⟩,
               ⟨some 30, some (28, false), .load 1 false (.t 29)⟩,
               ⟨some 31, some (28, false), .bin .gtr (.t 30) (.c (.int .i64 1000000000000000))⟩,
               ⟨some 32, none, .pick (.t 28) (.c (.bool true)) (.t 31)⟩,
               ⟨some 33, none, .mov (.t 32)⟩,
               ⟨some 34, some (33, false), .faddr 2 (.t 5)⟩,
               ⟨some 35, some (33, false), .load 1 false (.t 34)⟩,
               ⟨some 36, some (33, false), .bin .lss (.t 35) (.c (.int .i64 1))⟩,
               ⟨some 37, none, .pick (.t 33) (.c (.bool true)) (.t 36)⟩,
               ⟨some 38, none, .mov (.t 37)⟩,
               ⟨some 39, some (38, false), .faddr 2 (.t 5)⟩,
               ⟨some 40, some (38, false), .load 1 false (.t 39)⟩,
               ⟨some 41, some (38, false), .bin .gtr (.t 40) (.c (.int .i64 1000000000000))⟩,
               ⟨some 42, none, .pick (.t 38) (.c (.bool true)) (.t 41)⟩,
               ⟨some 43, none, .mov (.t 42)⟩,
               ⟨some 44, some (43, false), .faddr 3 (.t 5)⟩,
               ⟨some 45, some (43, false), .faddr 0 (.t 44)⟩,
               ⟨some 46, some (43, false), .load 1 false (.t 45)⟩,
               ⟨some 47, some (43, false), .bin .lss (.t 46) (.c (.int .i64 0))⟩,
               ⟨some 48, none, .pick (.t 43) (.c (.bool true)) (.t 47)⟩,
               ⟨some 49, none, .mov (.t 48)⟩,
               ⟨some 50, some (49, false), .faddr 3 (.t 5)⟩,
               ⟨some 51, some (49, false), .faddr 0 (.t 50)⟩,
               ⟨some 52, some (49, false), .load 1 false (.t 51)⟩,
               ⟨some 53, some (49, false), .faddr 3 (.t 5)⟩,
               ⟨some 54, some (49, false), .faddr 1 (.t 53)⟩,
               ⟨some 55, some (49, false), .load 1 false (.t 54)⟩,
               ⟨some 56, some (49, false), .bin .geq (.t 52) (.t 55)⟩,
               ⟨some 57, none, .pick (.t 49) (.c (.bool true)) (.t 56)⟩,
               ⟨some 58, none, .mov (.t 57)⟩,
               ⟨some 59, some (58, false), .faddr 3 (.t 5)⟩,
               ⟨some 60, some (58, false), .faddr 1 (.t 59)⟩,
               ⟨some 61, some (58, false), .load 1 false (.t 60)⟩,
               ⟨some 62, some (58, false), .bin .gtr (.t 61) (.c (.int .i64 1000000000000))⟩,
               ⟨some 63, none, .pick (.t 58) (.c (.bool true)) (.t 62)⟩])
              (.cond (.t 63)
               (.seq
                (.reg [⟨some 2, none, .mov (.c (.int .i64 2))⟩])
                .ret)
               .skip))
             (.seq
              (.seq
               (.reg [⟨some 64, none, .faddr 5 (.t 5)⟩,
                ⟨some 65, none, .load 1 false (.t 64)⟩,
                ⟨some 66, none, .call false 37 [(.t 65)]⟩,
                ⟨some 6, none, .mov (.t 66)⟩])
               (.seq
                (.reg [⟨some 67, none, .mov (.t 6)⟩,
                 ⟨some 68, none, .bin .neq (.t 67) (.c (.int .i64 0))⟩])
                (.cond (.t 68)
                 (.seq
                  (.reg [⟨some 69, none, .mov (.t 6)⟩,
                   ⟨some 2, none, .mov (.t 69)⟩])
                  .ret)
                 .skip)))
              (.seq
               (.seq
                (.reg [⟨some 70, none, .mov (.t 4)⟩,
                 ⟨some 71, none, .bin .gtr (.t 70) (.c (.int .i64 0))⟩,
                 ⟨some 72, none, .mov (.t 71)⟩,
                 ⟨some 73, some (72, true), .faddr 3 (.t 5)⟩,
                 ⟨some 74, some (72, true), .faddr 0 (.t 73)⟩,
                 ⟨some 75, some (72, true), .load 1 false (.t 74)⟩,
                 ⟨some 76, some (72, true), .mov (.t 0)⟩,
                 ⟨some 77, some (72, true), .mov (.t 4)⟩,
                 ⟨some 78, some (72, true), .bin .sub (.t 77) (.c (.int .i64 1))⟩,
                 ⟨some 79, some (72, true), .iaddr (.slice 7) (.t 76) (.t 78)⟩,
                 ⟨some 80, some (72, true), .faddr 3 (.t 79)⟩,
                 ⟨some 81, some (72, true), .faddr 0 (.t 80)⟩,
                 ⟨some 82, some (72, true), .load 1 false (.t 81)⟩,
                 ⟨some 83, some (72, true), .bin .lss (.t 75) (.t 82)⟩,
                 ⟨some 84, none, .pick (.t 72) (.t 83) (.c (.bool false))⟩])
                (.cond (.t 84)
                 (.seq
                  (.reg [⟨some 2, none, .mov (.c (.int .i64 11))⟩])
                  .ret)
                 .skip))
               (.seq
                (.seq
                 (.reg [⟨some 85, none, .mov (.t 3)⟩,
                  ⟨some 86, none, .faddr 0 (.t 5)⟩,
                  ⟨some 87, none, .load 1 false (.t 86)⟩,
                  ⟨some 88, none, .mget false [.i] false (.int .i64 0) (.t 85) (.t 87)⟩,
                  ⟨some 89, none, .faddr 3 (.t 5)⟩,
                  ⟨some 90, none, .faddr 0 (.t 89)⟩,
                  ⟨some 91, none, .load 1 false (.t 90)⟩,
                  ⟨some 92, none, .bin .gtr (.t 88) (.t 91)⟩])
                 (.cond (.t 92)
                  (.seq
                   (.reg [⟨some 2, none, .mov (.c (.int .i64 4))⟩])
                   .ret)
                  .skip))
                (.reg [⟨some 93, none, .mov (.t 3)⟩,
                 ⟨some 94, none, .faddr 0 (.t 5)⟩,
                 ⟨some 95, none, .load 1 false (.t 94)⟩,
                 ⟨some 96, none, .faddr 3 (.t 5)⟩,
                 ⟨some 97, none, .faddr 1 (.t 96)⟩,
                 ⟨some 98, none, .load 1 false (.t 97)⟩,
                 ⟨none, none, .mset [.i] false (.t 93) (.t 95) (.t 98)⟩])))))))
          (.reg [⟨some 99, none, .bin .add (.t 10) (.c (.int .i64 1))⟩,
           ⟨some 10, none, .mov (.t 99)⟩]))))
/-- tracebook/memory.Check -/
def c14 : AFn := ⟨1, 100, [.t 2],
 (.seq
  (.reg [⟨some 2, none, .mov (.c (.int .i64 0))⟩])
  (.seq
   (.reg [⟨some 7, none, .mkmap none⟩,
    ⟨some 3, none, .mov (.t 7)⟩])
   (.seq
    (.seq
     (.reg [⟨some 8, none, .mov (.t 0)⟩,
      ⟨some 9, none, .len (.t 8)⟩,
      ⟨some 10, none, .mov (.c (.int .i64 0))⟩])
     (.block 0
      (.loop [0, 3, 8, 9, 10]
       c14b0)))
    (.seq
     (.reg [⟨some 2, none, .mov (.c (.int .i64 0))⟩])
     .ret)))), none⟩
def k14 : List (List Nat) := [[0, 3, 8, 9, 10]]
def o14 : List Nat := [1000030, 1000032, 1000040, 1000045, 1000049, 1000051, 1000052, 1000055, 1000056, 1000057, 1000058, 1000059, 1000060, 1000061, 1000062, 1000065, 1000066, 1000069, 1000070, 1000071, 1000072, 3000000]
def c15b0 : AC := (.seq
                  (.seq
                   (.reg [⟨some 87, none, .mov (.t 6)⟩,
                    ⟨some 88, none, .mov (.t 3)⟩,
                    ⟨some 89, none, .bin .lss (.t 87) (.t 88)⟩])
                   (.cond (.t 89)
                    .skip
                    (.exit 2)))
                  (.seq
                   (.block 3
                    (.seq
                     (.reg [⟨some 92, none, .mov (.t 0)⟩,
                      ⟨some 93, none, .mov (.t 6)⟩,
                      ⟨some 94, none, .iaddr (.slice 7) (.t 92) (.t 93)⟩,
                      ⟨some 95, none, .faddr 0 (.t 94)⟩,
                      ⟨some 96, none, .load 1 false (.t 95)⟩,
                      ⟨some 97, none, .faddr 0 (.t 4)⟩,
                      ⟨some 98, none, .load 1 false (.t 97)⟩,
                      ⟨some 99, none, .bin .eql (.t 96) (.t 98)⟩,
                      ⟨some 100, none, .mov (.t 99)⟩,
                      ⟨some 101, some (100, true), .mov (.t 0)⟩,
                      ⟨some 102, some (100, true), .mov (.t 6)⟩,
                      ⟨some 103, some (100, true), .iaddr (.slice 7) (.t 101) (.t 102)⟩,
                      ⟨some 104, some (100, true), .faddr 3 (.t 103)⟩,
                      ⟨some 105, some (100, true), .load 2 true (.t 104)⟩,
                      ⟨some 106, some (100, true), .faddr 3 (.t 4)⟩,
                      ⟨some 107, some (100, true), .load 2 true (.t 106)⟩,
                      ⟨some 108, some (100, true), .call false 39 [(.t 105), (.t 107)]⟩,
                      ⟨some 109, none, .pick (.t 100) (.t 108) (.c (.bool false))⟩])
                     (.cond (.t 109)
                      (.seq
                       (.reg [⟨some 2, none, .mov (.c (.int .i64 4))⟩])
                       .ret)
                      .skip)))
                   (.reg [⟨some 90, none, .mov (.t 6)⟩,
                    ⟨some 91, none, .bin .add (.t 90) (.c (.int .i64 1))⟩,
                    ⟨some 6, none, .mov (.t 91)⟩])))
def c15b1 : AC := (.seq
       (.seq
        (.reg [⟨some 7, none, .mov (.t 3)⟩,
         ⟨some 8, none, .mov (.t 0)⟩,
         ⟨some 9, none, .len (.t 8)⟩,
         ⟨some 10, none, .bin .lss (.t 7) (.t 9)⟩])
        (.cond (.t 10)
         .skip
         (.exit 0)))
       (.seq
        (.block 1
         (.seq
          (.reg [⟨some 13, none, .mov (.t 0)⟩,
           ⟨some 14, none, .mov (.t 3)⟩,
           ⟨some 15, none, .iaddr (.slice 7) (.t 13) (.t 14)⟩,
           ⟨some 16, none, .load 7 true (.t 15)⟩,
           ⟨some 4, none, .alloc [(.int .i64 0), (.int .i64 0), (.int .i64 0), (.int .i64 0), (.int .i64 0), .nilS, (.bool false)]⟩,
           ⟨none, none, .store 7 (.t 4) (.t 16)⟩])
          (.seq
           (.seq
            (.reg [⟨some 17, none, .faddr 0 (.t 4)⟩,
             ⟨some 18, none, .load 1 false (.t 17)⟩,
             ⟨some 19, none, .bin .lss (.t 18) (.c (.int .i64 0))⟩,
             ⟨some 20, none, .mov (.t 19)⟩,
             ⟨some 21, some (20, false), .faddr 0 (.t 4)⟩,
             ⟨some 22, some (20, false), .load 1 false (.t 21)⟩,
             ⟨some 23, some (20, false), .bin .gtr (.t 22) (.c (.int .i64 1000000000000000))⟩,
             ⟨some 24, none, .pick (.t 20) (.c (.bool true)) (.t 23)⟩,
             ⟨some 25, none, .mov (.t 24)⟩,
             ⟨some 26, some (25, false), .faddr 1 (.t 4)⟩,
             ⟨some 27, some (25, false), .load 1 false (.t 26)⟩,
             ⟨some 28, some (25, false), .bin .lss (.t 27) (.c (.int .i64 0))⟩,
             ⟨some 29, none, .pick (.t 25) (.c (.bool true)) (.t 28)⟩,
             ⟨some 30, none, .mov (.t 29)⟩,
             ⟨some 31, some (30, false), .faddr 1 (.t 4)⟩,
             ⟨some 32, some (30, false), .load 1 false (.t 31)⟩,
             ⟨some 33, some (30, false), .bin .gtr (.t 32) (.c (.int .i64 1000000000000000))⟩,
             ⟨some 34, none, .pick (.t 30) (.c (.bool true)) (.t 33)⟩,
             ⟨some 35, none, .mov (.t 34)⟩,
             ⟨some 36, some (35, false), .faddr 2 (.t 4)⟩,
             ⟨some 37, some (35, false), .load 1 false (.t 36)⟩,
             ⟨some 38, some (35, false), .bin .lss (.t 37) (.c (.int .i64 1))⟩,
             ⟨some 39, none, .pick (.t 35) (.c (.bool true)) (.t 38)⟩,
             ⟨some 40, none, .mov (.t 39)⟩,
             ⟨some 41, some (40, false), .faddr 2 (.t 4)⟩,
             ⟨some 42, some (40, false), .load 1 false (.t 41)⟩,
             ⟨some 43, some (40, false), .bin .gtr (.t 42) (.c (.int .i64 1000000000000))⟩,
             ⟨some 44, none, .pick (.t 40) (.c (.bool true)) (.t 43)⟩,
             ⟨some 45, none, .mov (.t 44)⟩,
             ⟨some 46, some (45, false), .faddr 3 (.t 4)⟩,
             ⟨some 47, some (45, false), .faddr 0 (.t 46)⟩,
             ⟨some 48, some (45, false), .load 1 false (.t 47)⟩,
             ⟨some 49, some (45, false), .bin .lss (.t 48) (.c (.int .i64 0))⟩,
             ⟨some 50, none, .pick (.t 45) (.c (.bool true)) (.t 49)⟩,
             ⟨some 51, none, .mov (.t 50)⟩,
             ⟨some 52, some (51, false), .faddr 3 (.t 4)⟩,
             ⟨some 53, some (51, false), .faddr 0 (.t 52)⟩,
             ⟨some 54, some (51, false), .load 1 false (.t 53)⟩,
             ⟨some 55, some (51, false), .faddr 3 (.t 4)⟩,
             ⟨some 56, some (51, false), .faddr 1 (.t 55)⟩,
             ⟨some 57, some (51, false), .load 1 false (.t 56)⟩,
             ⟨some 58, some (51, false), .bin .geq (.t 54) (.t 57)⟩,
             ⟨some 59, none, .pick (.t 51) (.c (.bool true)) (.t 58)⟩,
             ⟨some 60, none, .mov (.t 59)⟩,
             ⟨some 61, some (60, false), .faddr 3 (.t 4)⟩,
             ⟨some 62, some (60, false), .faddr 1 (.t 61)⟩,
             ⟨some 63, some (60, false), .load 1 false (.t 62)⟩,
             ⟨some 64, some (60, false), .bin .gtr (.t 63) (.c (.int .i64 1000000000000))⟩,
             ⟨some 65, none, .pick (.t 60) (.c (.bool true)) (.t 64)⟩])
            (.cond (.t 65)
             (.seq
              (.reg [⟨some 2, none, .mov (.c (.int .i64 2))⟩])
              .ret)
             .skip))
           (.seq
            (.reg [⟨some 66, none, .faddr 5 (.t 4)⟩,
             ⟨some 67, none, .load 1 false (.t 66)⟩,
             ⟨some 68, none, .call false 38 [(.t 67)]⟩,
             ⟨some 5, none, .mov (.t 68)⟩])
            (.seq
             (.seq
              (.reg [⟨some 69, none, .mov (.t 5)⟩,
               ⟨some 70, none, .bin .neq (.t 69) (.c (.int .i64 0))⟩])
              (.cond (.t 70)
               (.seq
                (.reg [⟨some 71, none, .mov (.t 5)⟩,
                 ⟨some 2, none, .mov (.t 71)⟩])
                .ret)
               .skip))
             (.seq
              (.seq
               (.reg [⟨some 72, none, .mov (.t 3)⟩,
                ⟨some 73, none, .bin .gtr (.t 72) (.c (.int .i64 0))⟩,
                ⟨some 74, none, .mov (.t 73)⟩,
                ⟨some 75, some (74, true), .faddr 3 (.t 4)⟩,
                ⟨some 76, some (74, true), .faddr 0 (.t 75)⟩,
                ⟨some 77, some (74, true), .load 1 false (.t 76)⟩,
                ⟨some 78, some (74, true), .mov (.t 0)⟩,
                ⟨some 79, some (74, true), .mov (.t 3)⟩,
                ⟨some 80, some (74, true), .bin .sub (.t 79) (.c (.int .i64 1))⟩,
                ⟨some 81, some (74, true), .iaddr (.slice 7) (.t 78) (.t 80)⟩,
                ⟨some 82, some (74, true), .faddr 3 (.t 81)⟩,
                ⟨some 83, some (74, true), .faddr 0 (.t 82)⟩,
                ⟨some 84, some (74, true), .load 1 false (.t 83)⟩,
                ⟨some 85, some (74, true), .bin .lss (.t 77) (.t 84)⟩,
                ⟨some 86, none, .pick (.t 74) (.t 85) (.c (.bool false))⟩])
               (.cond (.t 86)
                (.seq
                 (.reg [⟨some 2, none, .mov (.c (.int .i64 11))⟩])
                 .ret)
                .skip))
              (.seq
               (.reg [⟨some 6, none, .mov (.c (.int .i64 0))⟩])
               (.block 2
                (.loop [0, 3, 4, 6]
                 c15b0)))))))))
        (.reg [⟨some 11, none, .mov (.t 3)⟩,
         ⟨some 12, none, .bin .add (.t 11) (.c (.int .i64 1))⟩,
         ⟨some 3, none, .mov (.t 12)⟩])))
/-- tracebook/tracebookref31.Check -/
def c15 : AFn := ⟨1, 110, [.t 2],
 (.seq
  (.reg [⟨some 2, none, .mov (.c (.int .i64 0))⟩])
  (.seq
   (.seq
    (.reg [⟨some 3, none, .mov (.c (.int .i64 0))⟩])
    (.block 0
     (.loop [0, 3]
      c15b1)))
   (.seq
    (.reg [⟨some 2, none, .mov (.c (.int .i64 0))⟩])
    .ret))), none⟩
def k15 : List (List Nat) := [[0, 3], [0, 3, 4, 6]]
def o15 : List Nat := [1000030, 1000032, 1000040, 1000045, 1000049, 1000051, 1000052, 1000055, 1000056, 1000057, 1000058, 1000059, 1000060, 1000061, 1000062, 1000065, 1000066, 1000069, 1000070, 1000071, 1000072, 3000000]
def c16b0 : AC := (.seq
        (.reg [⟨some 9, none, .bin .lss (.t 8) (.t 7)⟩])
        (.seq
         (.cond (.t 9)
          .skip
          (.exit 0))
         (.seq
          (.block 1
           (.seq
            (.reg [⟨some 10, none, .iaddr (.slice 7) (.t 6) (.t 8)⟩,
             ⟨some 11, none, .load 7 true (.t 10)⟩,
             ⟨some 5, none, .alloc [(.int .i64 0), (.int .i64 0), (.int .i64 0), (.int .i64 0), (.int .i64 0), .nilS, (.bool false)]⟩,
             ⟨none, none, .store 7 (.t 5) (.t 11)⟩])
            (.seq
             (.reg [⟨some 12, none, .faddr 6 (.t 5)⟩,
              ⟨some 13, none, .load 1 false (.t 12)⟩])
             (.cond (.t 13)
              (.reg [⟨some 14, none, .mov (.t 3)⟩,
               ⟨some 15, none, .load 7 true (.t 5)⟩,
               ⟨some 16, none, .bslice false 7 [(.int .i64 0), (.int .i64 0), (.int .i64 0), (.int .i64 0), (.int .i64 0), .nilS, (.bool false)] 1 [(0, (.t 15))]⟩,
               ⟨some 17, none, .append 7 72 (.t 14) (.t 16)⟩,
               ⟨some 3, none, .mov (.t 17)⟩])
              .skip))))
          (.reg [⟨some 18, none, .bin .add (.t 8) (.c (.int .i64 1))⟩,
           ⟨some 8, none, .mov (.t 18)⟩]))))
/-- tracebook/memory.Leaks -/
def c16 : AFn := ⟨1, 20, [.t 2],
 (.seq
  (.reg [⟨some 2, none, .nilv 7⟩])
  (.seq
   (.reg [⟨some 3, none, .nilv 7⟩])
   (.seq
    (.seq
     (.reg [⟨some 6, none, .mov (.t 0)⟩,
      ⟨some 7, none, .len (.t 6)⟩,
      ⟨some 8, none, .mov (.c (.int .i64 0))⟩])
     (.block 0
      (.loop [3, 6, 7, 8]
       c16b0)))
    (.seq
     (.reg [⟨some 19, none, .mov (.t 3)⟩,
      ⟨some 2, none, .mov (.t 19)⟩])
     .ret)))), none⟩
def k16 : List (List Nat) := [[3, 6, 7, 8]]
def o16 : List Nat := [1000030, 1000032, 1000040, 1000045, 1000049, 1000051, 1000052, 1000055, 1000056, 1000057, 1000058, 1000059, 1000060, 1000061, 1000062, 1000065, 1000066, 1000069, 1000070, 1000071, 1000072, 3000000]
def c17b0 : AC := (.seq
        (.seq
         (.reg [⟨some 5, none, .mov (.t 4)⟩,
          ⟨some 6, none, .mov (.t 0)⟩,
          ⟨some 7, none, .len (.t 6)⟩,
          ⟨some 8, none, .bin .lss (.t 5) (.t 7)⟩])
         (.cond (.t 8)
          .skip
          (.exit 0)))
        (.seq
         (.block 1
          (.seq
           (.reg [⟨some 11, none, .mov (.t 0)⟩,
            ⟨some 12, none, .mov (.t 4)⟩,
            ⟨some 13, none, .iaddr (.slice 7) (.t 11) (.t 12)⟩,
            ⟨some 14, none, .faddr 6 (.t 13)⟩,
            ⟨some 15, none, .load 1 false (.t 14)⟩])
           (.cond (.t 15)
            (.reg [⟨some 16, none, .mov (.t 3)⟩,
             ⟨some 17, none, .mov (.t 0)⟩,
             ⟨some 18, none, .mov (.t 4)⟩,
             ⟨some 19, none, .iaddr (.slice 7) (.t 17) (.t 18)⟩,
             ⟨some 20, none, .load 7 true (.t 19)⟩,
             ⟨some 21, none, .bslice false 7 [(.int .i64 0), (.int .i64 0), (.int .i64 0), (.int .i64 0), (.int .i64 0), .nilS, (.bool false)] 1 [(0, (.t 20))]⟩,
             ⟨some 22, none, .append 7 72 (.t 16) (.t 21)⟩,
             ⟨some 3, none, .mov (.t 22)⟩])
            .skip)))
         (.reg [⟨some 9, none, .mov (.t 4)⟩,
          ⟨some 10, none, .bin .add (.t 9) (.c (.int .i64 1))⟩,
          ⟨some 4, none, .mov (.t 10)⟩])))
/-- tracebook/tracebookref31.Leaks -/
def c17 : AFn := ⟨1, 24, [.t 2],
 (.seq
  (.reg [⟨some 2, none, .nilv 7⟩])
  (.seq
   (.reg [⟨some 3, none, .nilv 7⟩])
   (.seq
    (.seq
     (.reg [⟨some 4, none, .mov (.c (.int .i64 0))⟩])
     (.block 0
      (.loop [0, 3, 4]
       c17b0)))
    (.seq
     (.reg [⟨some 23, none, .mov (.t 3)⟩,
      ⟨some 2, none, .mov (.t 23)⟩])
     .ret)))), none⟩
def k17 : List (List Nat) := [[0, 3, 4]]
def o17 : List Nat := [1000030, 1000032, 1000040, 1000045, 1000049, 1000051, 1000052, 1000055, 1000056, 1000057, 1000058, 1000059, 1000060, 1000061, 1000062, 1000065, 1000066, 1000069, 1000070, 1000071, 1000072, 3000000]
def c18b0 : AC := (.seq
           (.reg [⟨some 41, none, .bin .lss (.t 40) (.t 39)⟩])
           (.seq
            (.cond (.t 41)
             .skip
             (.exit 2))
            (.seq
             (.block 3
              (.seq
               (.reg [⟨some 42, none, .mov (.t 40)⟩,
                ⟨some 43, none, .iaddr (.slice 2) (.t 38) (.t 40)⟩,
                ⟨some 44, none, .load 2 true (.t 43)⟩,
                ⟨some 11, none, .alloc [(.int .i64 0), (.int .i64 0)]⟩,
                ⟨some 10, none, .mov (.t 42)⟩,
                ⟨none, none, .store 2 (.t 11) (.t 44)⟩])
               (.seq
                (.reg [⟨some 45, none, .mov (.t 9)⟩,
                 ⟨some 46, none, .faddr 1 (.t 11)⟩,
                 ⟨some 47, none, .load 1 false (.t 46)⟩,
                 ⟨some 48, none, .bin .add (.t 45) (.t 47)⟩,
                 ⟨some 9, none, .mov (.t 48)⟩])
                (.seq
                 (.seq
                  (.reg [⟨some 49, none, .mov (.t 10)⟩,
                   ⟨some 50, none, .bin .add (.t 49) (.c (.int .i64 1))⟩,
                   ⟨some 51, none, .mov (.t 4)⟩,
                   ⟨some 52, none, .len (.t 51)⟩,
                   ⟨some 53, none, .bin .lss (.t 50) (.t 52)⟩,
                   ⟨some 54, none, .mov (.t 53)⟩,
                   ⟨some 55, some (54, true), .mov (.t 4)⟩,
                   ⟨some 56, some (54, true), .mov (.t 10)⟩,
                   ⟨some 57, some (54, true), .bin .add (.t 56) (.c (.int .i64 1))⟩,
                   ⟨some 58, some (54, true), .iaddr (.slice 2) (.t 55) (.t 57)⟩,
                   ⟨some 59, some (54, true), .faddr 0 (.t 58)⟩,
                   ⟨some 60, some (54, true), .load 1 false (.t 59)⟩,
                   ⟨some 61, some (54, true), .faddr 0 (.t 11)⟩,
                   ⟨some 62, some (54, true), .load 1 false (.t 61)⟩,
                   ⟨some 63, some (54, true), .bin .eql (.t 60) (.t 62)⟩,
                   ⟨some 64, none, .pick (.t 54) (.t 63) (.c (.bool false))⟩])
                  (.cond (.t 64)
                   (.exit 3)
                   .skip))
                 (.seq
                  (.reg [⟨some 65, none, .mov (.t 9)⟩,
                   ⟨some 66, none, .min [(.t 65), (.c (.int .i64 1000000000000000))]⟩,
                   ⟨some 12, none, .mov (.t 66)⟩])
                  (.seq
                   (.reg [⟨some 67, none, .mov (.t 12)⟩,
                    ⟨some 68, none, .mov (.t 8)⟩,
                    ⟨some 69, none, .bin .gtr (.t 67) (.t 68)⟩])
                   (.cond (.t 69)
                    (.reg [⟨some 70, none, .faddr 0 (.t 11)⟩,
                     ⟨some 71, none, .load 1 false (.t 70)⟩,
                     ⟨some 72, none, .mov (.t 12)⟩,
                     ⟨some 7, none, .mov (.t 71)⟩,
                     ⟨some 8, none, .mov (.t 72)⟩])
                    .skip)))))))
             (.reg [⟨some 73, none, .bin .add (.t 40) (.c (.int .i64 1))⟩,
              ⟨some 40, none, .mov (.t 73)⟩]))))
def c18b1 : AC := (.seq
        (.reg [⟨some 16, none, .bin .lss (.t 15) (.t 14)⟩])
        (.seq
         (.cond (.t 16)
          .skip
          (.exit 0))
         (.seq
          (.block 1
           (.seq
            (.reg [⟨some 17, none, .iaddr (.slice 7) (.t 13) (.t 15)⟩,
             ⟨some 18, none, .load 7 true (.t 17)⟩,
             ⟨some 6, none, .alloc [(.int .i64 0), (.int .i64 0), (.int .i64 0), (.int .i64 0), (.int .i64 0), .nilS, (.bool false)]⟩,
             ⟨none, none, .store 7 (.t 6) (.t 18)⟩])
            (.reg [⟨some 19, none, .mov (.t 4)⟩,
             ⟨some 20, none, .faddr 3 (.t 6)⟩,
             ⟨some 21, none, .faddr 0 (.t 20)⟩,
             ⟨some 22, none, .load 1 false (.t 21)⟩,
             ⟨some 23, none, .faddr 2 (.t 6)⟩,
             ⟨some 24, none, .load 1 false (.t 23)⟩,
             ⟨some 25, none, .build [(.int .i64 0), (.int .i64 0)] [(0, 1, (.t 22)), (1, 1, (.t 24))]⟩,
             ⟨some 26, none, .faddr 3 (.t 6)⟩,
             ⟨some 27, none, .faddr 1 (.t 26)⟩,
             ⟨some 28, none, .load 1 false (.t 27)⟩,
             ⟨some 29, none, .faddr 2 (.t 6)⟩,
             ⟨some 30, none, .load 1 false (.t 29)⟩,
             ⟨some 31, none, .un .neg (.t 30)⟩,
             ⟨some 32, none, .build [(.int .i64 0), (.int .i64 0)] [(0, 1, (.t 28)), (1, 1, (.t 31))]⟩,
             ⟨some 33, none, .bslice false 2 [(.int .i64 0), (.int .i64 0)] 2 [(0, (.t 25)), (1, (.t 32))]⟩,
             ⟨some 34, none, .append 2 16 (.t 19) (.t 33)⟩,
             ⟨some 4, none, .mov (.t 34)⟩])))
          (.reg [⟨some 35, none, .bin .add (.t 15) (.c (.int .i64 1))⟩,
           ⟨some 15, none, .mov (.t 35)⟩]))))
def c18r0 : AC := (.seq
     (.reg [⟨some 36, none, .mov (.t 4)⟩,
      ⟨some 37, none, .callS 40 [(.t 36), (.c (.fn 41 []))]⟩])
     (.seq
      (.reg [⟨some 7, none, .mov (.c (.int .i64 0))⟩,
       ⟨some 8, none, .mov (.c (.int .i64 0))⟩,
       ⟨some 9, none, .mov (.c (.int .i64 0))⟩])
      (.seq
       (.seq
        (.reg [⟨some 38, none, .mov (.t 4)⟩,
         ⟨some 39, none, .len (.t 38)⟩,
         ⟨some 40, none, .mov (.c (.int .i64 0))⟩])
        (.block 2
         (.loop [4, 7, 8, 9, 38, 39, 40]
          c18b0)))
       (.seq
        (.reg [⟨some 74, none, .mov (.t 7)⟩,
         ⟨some 75, none, .mov (.t 8)⟩,
         ⟨some 2, none, .mov (.t 74)⟩,
         ⟨some 3, none, .mov (.t 75)⟩])
        .ret))))
/-- tracebook/memory.Peak -/
def c18 : AFn := ⟨1, 76, [.t 2, .t 3],
 (.seq
  (.reg [⟨some 2, none, .mov (.c (.int .i64 0))⟩,
   ⟨some 3, none, .mov (.c (.int .i64 0))⟩])
  (.seq
   (.reg [⟨some 4, none, .nilv 2⟩])
   (.seq
    (.seq
     (.reg [⟨some 13, none, .mov (.t 0)⟩,
      ⟨some 14, none, .len (.t 13)⟩,
      ⟨some 15, none, .mov (.c (.int .i64 0))⟩])
     (.block 0
      (.loop [4, 13, 14, 15]
       c18b1)))
    c18r0))), none⟩
def k18 : List (List Nat) := [[4, 13, 14, 15], [4, 7, 8, 9, 38, 39, 40]]
def o18 : List Nat := [1000030, 1000032, 1000040, 1000045, 1000049, 1000051, 1000052, 1000055, 1000056, 1000057, 1000058, 1000059, 1000060, 1000061, 1000062, 1000065, 1000066, 1000069, 1000070, 1000071, 1000072, 3000000]
def c19b0 : AC := (.seq
        (.seq
         (.reg [⟨some 8, none, .mov (.t 6)⟩,
          ⟨some 9, none, .mov (.t 0)⟩,
          ⟨some 10, none, .len (.t 9)⟩,
          ⟨some 11, none, .bin .lss (.t 8) (.t 10)⟩])
         (.cond (.t 11)
          .skip
          (.exit 0)))
        (.seq
         (.block 1
          (.seq
           (.reg [⟨some 14, none, .mov (.t 0)⟩,
            ⟨some 15, none, .mov (.t 0)⟩,
            ⟨some 16, none, .mov (.t 6)⟩,
            ⟨some 17, none, .iaddr (.slice 7) (.t 15) (.t 16)⟩,
            ⟨some 18, none, .faddr 3 (.t 17)⟩,
            ⟨some 19, none, .faddr 0 (.t 18)⟩,
            ⟨some 20, none, .load 1 false (.t 19)⟩,
            ⟨some 21, none, .call false 21 [(.t 14), (.t 20)]⟩,
            ⟨some 7, none, .mov (.t 21)⟩])
           (.seq
            (.reg [⟨some 22, none, .mov (.t 7)⟩,
             ⟨some 23, none, .mov (.t 5)⟩,
             ⟨some 24, none, .bin .gtr (.t 22) (.t 23)⟩])
            (.cond (.t 24)
             (.seq
              (.reg [⟨some 25, none, .mov (.t 7)⟩,
               ⟨some 5, none, .mov (.t 25)⟩])
              (.reg [⟨some 26, none, .mov (.t 0)⟩,
               ⟨some 27, none, .mov (.t 6)⟩,
               ⟨some 28, none, .iaddr (.slice 7) (.t 26) (.t 27)⟩,
               ⟨some 29, none, .faddr 3 (.t 28)⟩,
               ⟨some 30, none, .faddr 0 (.t 29)⟩,
               ⟨some 31, none, .load 1 false (.t 30)⟩,
               ⟨some 4, none, .mov (.t 31)⟩]))
             .skip))))
         (.reg [⟨some 12, none, .mov (.t 6)⟩,
          ⟨some 13, none, .bin .add (.t 12) (.c (.int .i64 1))⟩,
          ⟨some 6, none, .mov (.t 13)⟩])))
/-- tracebook/tracebookref31.Peak -/
def c19 : AFn := ⟨1, 34, [.t 2, .t 3],
 (.seq
  (.reg [⟨some 2, none, .mov (.c (.int .i64 0))⟩,
   ⟨some 3, none, .mov (.c (.int .i64 0))⟩])
  (.seq
   (.reg [⟨some 4, none, .mov (.c (.int .i64 0))⟩,
    ⟨some 5, none, .mov (.c (.int .i64 0))⟩])
   (.seq
    (.seq
     (.reg [⟨some 6, none, .mov (.c (.int .i64 0))⟩])
     (.block 0
      (.loop [0, 4, 5, 6]
       c19b0)))
    (.seq
     (.reg [⟨some 32, none, .mov (.t 4)⟩,
      ⟨some 33, none, .mov (.t 5)⟩,
      ⟨some 2, none, .mov (.t 32)⟩,
      ⟨some 3, none, .mov (.t 33)⟩])
     .ret)))), none⟩
def k19 : List (List Nat) := [[0, 4, 5, 6]]
def o19 : List Nat := [1000030, 1000032, 1000040, 1000045, 1000049, 1000051, 1000052, 1000055, 1000056, 1000057, 1000058, 1000059, 1000060, 1000061, 1000062, 1000065, 1000066, 1000069, 1000070, 1000071, 1000072, 3000000]
def c20b0 : AC := (.seq
        (.reg [⟨some 11, none, .bin .lss (.t 10) (.t 9)⟩])
        (.seq
         (.cond (.t 11)
          .skip
          (.exit 0))
         (.seq
          (.block 1
           (.seq
            (.reg [⟨some 12, none, .iaddr (.slice 7) (.t 8) (.t 10)⟩,
             ⟨some 13, none, .load 7 true (.t 12)⟩,
             ⟨some 7, none, .alloc [(.int .i64 0), (.int .i64 0), (.int .i64 0), (.int .i64 0), (.int .i64 0), .nilS, (.bool false)]⟩,
             ⟨none, none, .store 7 (.t 7) (.t 13)⟩])
            (.seq
             (.reg [⟨some 14, none, .faddr 3 (.t 7)⟩,
              ⟨some 15, none, .faddr 0 (.t 14)⟩,
              ⟨some 16, none, .load 1 false (.t 15)⟩,
              ⟨some 17, none, .mov (.t 1)⟩,
              ⟨some 18, none, .bin .leq (.t 16) (.t 17)⟩,
              ⟨some 19, none, .mov (.t 18)⟩,
              ⟨some 20, some (19, true), .mov (.t 1)⟩,
              ⟨some 21, some (19, true), .faddr 3 (.t 7)⟩,
              ⟨some 22, some (19, true), .faddr 1 (.t 21)⟩,
              ⟨some 23, some (19, true), .load 1 false (.t 22)⟩,
              ⟨some 24, some (19, true), .bin .lss (.t 20) (.t 23)⟩,
              ⟨some 25, none, .pick (.t 19) (.t 24) (.c (.bool false))⟩])
             (.cond (.t 25)
              (.reg [⟨some 26, none, .mov (.t 5)⟩,
               ⟨some 27, none, .faddr 2 (.t 7)⟩,
               ⟨some 28, none, .load 1 false (.t 27)⟩,
               ⟨some 29, none, .bin .add (.t 26) (.t 28)⟩,
               ⟨some 30, none, .min [(.t 29), (.c (.int .i64 1000000000000000))]⟩,
               ⟨some 5, none, .mov (.t 30)⟩])
              .skip))))
          (.reg [⟨some 31, none, .bin .add (.t 10) (.c (.int .i64 1))⟩,
           ⟨some 10, none, .mov (.t 31)⟩]))))
/-- tracebook/memory.Live -/
def c20 : AFn := ⟨2, 33, [.t 4],
 (.seq
  (.reg [⟨some 4, none, .mov (.c (.int .i64 0))⟩])
  (.seq
   (.reg [⟨some 5, none, .mov (.c (.int .i64 0))⟩])
   (.seq
    (.seq
     (.reg [⟨some 8, none, .mov (.t 0)⟩,
      ⟨some 9, none, .len (.t 8)⟩,
      ⟨some 10, none, .mov (.c (.int .i64 0))⟩])
     (.block 0
      (.loop [1, 5, 8, 9, 10]
       c20b0)))
    (.seq
     (.reg [⟨some 32, none, .mov (.t 5)⟩,
      ⟨some 4, none, .mov (.t 32)⟩])
     .ret)))), none⟩
def k20 : List (List Nat) := [[1, 5, 8, 9, 10]]
def o20 : List Nat := [1000030, 1000032, 1000040, 1000045, 1000049, 1000051, 1000052, 1000055, 1000056, 1000057, 1000058, 1000059, 1000060, 1000061, 1000062, 1000065, 1000066, 1000069, 1000070, 1000071, 1000072, 3000000]
def c21b0 : AC := (.seq
        (.seq
         (.reg [⟨some 7, none, .mov (.t 6)⟩,
          ⟨some 8, none, .mov (.t 0)⟩,
          ⟨some 9, none, .len (.t 8)⟩,
          ⟨some 10, none, .bin .lss (.t 7) (.t 9)⟩])
         (.cond (.t 10)
          .skip
          (.exit 0)))
        (.seq
         (.block 1
          (.seq
           (.reg [⟨some 13, none, .mov (.t 0)⟩,
            ⟨some 14, none, .mov (.t 6)⟩,
            ⟨some 15, none, .iaddr (.slice 7) (.t 13) (.t 14)⟩,
            ⟨some 16, none, .faddr 3 (.t 15)⟩,
            ⟨some 17, none, .faddr 0 (.t 16)⟩,
            ⟨some 18, none, .load 1 false (.t 17)⟩,
            ⟨some 19, none, .mov (.t 1)⟩,
            ⟨some 20, none, .bin .leq (.t 18) (.t 19)⟩,
            ⟨some 21, none, .mov (.t 20)⟩,
            ⟨some 22, some (21, true), .mov (.t 1)⟩,
            ⟨some 23, some (21, true), .mov (.t 0)⟩,
            ⟨some 24, some (21, true), .mov (.t 6)⟩,
            ⟨some 25, some (21, true), .iaddr (.slice 7) (.t 23) (.t 24)⟩,
            ⟨some 26, some (21, true), .faddr 3 (.t 25)⟩,
            ⟨some 27, some (21, true), .faddr 1 (.t 26)⟩,
            ⟨some 28, some (21, true), .load 1 false (.t 27)⟩,
            ⟨some 29, some (21, true), .bin .lss (.t 22) (.t 28)⟩,
            ⟨some 30, none, .pick (.t 21) (.t 29) (.c (.bool false))⟩])
           (.cond (.t 30)
            (.reg [⟨some 31, none, .mov (.t 5)⟩,
             ⟨some 32, none, .mov (.t 0)⟩,
             ⟨some 33, none, .mov (.t 6)⟩,
             ⟨some 34, none, .iaddr (.slice 7) (.t 32) (.t 33)⟩,
             ⟨some 35, none, .faddr 2 (.t 34)⟩,
             ⟨some 36, none, .load 1 false (.t 35)⟩,
             ⟨some 37, none, .bin .add (.t 31) (.t 36)⟩,
             ⟨some 38, none, .min [(.t 37), (.c (.int .i64 1000000000000000))]⟩,
             ⟨some 5, none, .mov (.t 38)⟩])
            .skip)))
         (.reg [⟨some 11, none, .mov (.t 6)⟩,
          ⟨some 12, none, .bin .add (.t 11) (.c (.int .i64 1))⟩,
          ⟨some 6, none, .mov (.t 12)⟩])))
/-- tracebook/tracebookref31.Live -/
def c21 : AFn := ⟨2, 40, [.t 4],
 (.seq
  (.reg [⟨some 4, none, .mov (.c (.int .i64 0))⟩])
  (.seq
   (.reg [⟨some 5, none, .mov (.c (.int .i64 0))⟩])
   (.seq
    (.seq
     (.reg [⟨some 6, none, .mov (.c (.int .i64 0))⟩])
     (.block 0
      (.loop [0, 1, 5, 6]
       c21b0)))
    (.seq
     (.reg [⟨some 39, none, .mov (.t 5)⟩,
      ⟨some 4, none, .mov (.t 39)⟩])
     .ret)))), none⟩
def k21 : List (List Nat) := [[0, 1, 5, 6]]
def o21 : List Nat := [1000030, 1000032, 1000040, 1000045, 1000049, 1000051, 1000052, 1000055, 1000056, 1000057, 1000058, 1000059, 1000060, 1000061, 1000062, 1000065, 1000066, 1000069, 1000070, 1000071, 1000072, 3000000]
def c22b0 : AC := (.seq
       (.seq
        (.reg [⟨some 5, none, .mov (.t 3)⟩,
         ⟨some 6, none, .mov (.t 0)⟩,
         ⟨some 7, none, .len (.t 6)⟩,
         ⟨some 8, none, .bin .lss (.t 5) (.t 7)⟩])
        (.cond (.t 8)
         .skip
         (.exit 0)))
       (.seq
        (.block 1
         (.seq
          (.reg [⟨some 11, none, .mov (.t 0)⟩,
           ⟨some 12, none, .mov (.t 3)⟩,
           ⟨some 13, none, .iaddr (.slice 10) (.t 11) (.t 12)⟩,
           ⟨some 14, none, .faddr 2 (.t 13)⟩,
           ⟨some 15, none, .load 6 true (.t 14)⟩,
           ⟨some 4, none, .alloc [(.int .i64 0), (.int .i64 0), (.str []), (.int .i64 0), (.int .i64 0), .nilS]⟩,
           ⟨none, none, .store 6 (.t 4) (.t 15)⟩])
          (.seq
           (.reg [⟨some 16, none, .mov (.t 0)⟩,
            ⟨some 17, none, .mov (.t 3)⟩,
            ⟨some 18, none, .iaddr (.slice 10) (.t 16) (.t 17)⟩,
            ⟨some 19, none, .faddr 0 (.t 18)⟩,
            ⟨some 20, none, .faddr 0 (.t 19)⟩,
            ⟨some 21, none, .load 1 false (.t 20)⟩,
            ⟨some 22, none, .bin .lss (.t 21) (.c (.int .i64 0))⟩,
            ⟨some 23, none, .mov (.t 22)⟩,
            ⟨some 24, some (23, false), .mov (.t 0)⟩,
            ⟨some 25, some (23, false), .mov (.t 3)⟩,
            ⟨some 26, some (23, false), .iaddr (.slice 10) (.t 24) (.t 25)⟩,
            ⟨some 27, some (23, false), .faddr 0 (.t 26)⟩,
            ⟨some 28, some (23, false), .faddr 0 (.t 27)⟩,
            ⟨some 29, some (23, false), .load 1 false (.t 28)⟩,
            ⟨some 30, some (23, false), .bin .gtr (.t 29) (.c (.int .i64 1000000000000000))⟩,
            ⟨some 31, none, .pick (.t 23) (.c (.bool true)) (.t 30)⟩,
            ⟨some 32, none, .mov (.t 31)⟩,
            ⟨some 33, some (32, false), .faddr 3 (.t 4)⟩,
            ⟨some 34, some (32, false), .load 1 false (.t 33)⟩,
            ⟨some 35, some (32, false), .bin .lss (.t 34) (.c (.int .i64 0))⟩,
            ⟨some 36, none, .pick (.t 32) (.c (.bool true)) (.t 35)⟩,
            ⟨some 37, none, .mov (.t 36)⟩,
            ⟨some 38, some (37, false), .faddr 3 (.t 4)⟩,
            ⟨some 39, some (37, false), .load 1 false (.t 38)⟩,
            ⟨some 40, some (37, false), .bin .gtr (.t 39) (.c (.int .i64 1000000000000000))⟩,
            ⟨some 41, none, .pick (.t 37) (.c (.bool true)) (.t 40)⟩,
            ⟨some 42, none, .mov (.t 41)⟩,
            ⟨some 43, some (42, false), .faddr 1 (.t 4)⟩,
            ⟨some 44, some (42, false), .load 1 false (.t 43)⟩,
            ⟨some 45, some (42, false), .bin .eql (.t 44) (.c (.int .i64 11))⟩,
            ⟨some 46, some (42, false), .mov (.t 45)⟩,
            ⟨some 47, some (46, true), .faddr 4 (.t 4)⟩,
            ⟨some 48, some (46, true), .load 1 false (.t 47)⟩,
            ⟨some 49, some (46, true), .bin .lss (.t 48) (.c (.int .i64 1))⟩,
            ⟨some 50, some (46, true), .mov (.t 49)⟩,
            ⟨some 51, some (50, false), .faddr 4 (.t 4)⟩,
            ⟨some 52, some (50, false), .load 1 false (.t 51)⟩,
            ⟨some 53, some (50, false), .bin .gtr (.t 52) (.c (.int .i64 1000000000000))⟩,
            ⟨some 54, some (46, true), .pick (.t 50) (.c (.bool true)) (.t 53)⟩,
            ⟨some 55, some (46, true), .mov (.t 54)⟩,
            ⟨some 56, some (55, false), .faddr 5 (.t 4)⟩,
            ⟨some 57, some (55, false), .load 1 false (.t 56)⟩,
            ⟨some 58, some (55, false), .call false 37 [(.t 57)]⟩,
            ⟨some 59, some (55, false), .bin .neq (.t 58) (.c (.int .i64 0))⟩,
            ⟨some 60, some (46, true), .pick (.t 55) (.c (.bool true)) (.t 59)⟩,
            ⟨some 61, some (42, false), .pick (.t 46) (.t 60) (.c (.bool false))⟩,
            ⟨some 62, none, .pick (.t 42) (.c (.bool true)) (.t 61)⟩,
            ⟨some 63, none, .mov (.t 62)⟩,
            ⟨some 64, some (63, false), .mov (.t 3)⟩,
            ⟨some 65, some (63, false), .bin .gtr (.t 64) (.c (.int .i64 0))⟩,
            ⟨some 66, some (63, false), .mov (.t 65)⟩,
            ⟨some 67, some (66, true), .mov (.t 0)⟩,
            ⟨some 68, some (66, true), .mov (.t 3)⟩,
            ⟨some 69, some (66, true), .iaddr (.slice 10) (.t 67) (.t 68)⟩,
            ⟨some 70, some (66, true), .load 10 true (.t 69)⟩,
            ⟨some 71, some (66, true), .call false 25 [(.t 70)]⟩,
            ⟨some 72, some (66, true), .mov (.t 0)⟩,
            ⟨some 73, some (66, true), .mov (.t 3)⟩,
            ⟨some 74, some (66, true), .bin .sub (.t 73) (.c (.int .i64 1))⟩,
            ⟨some 75, some (66, true), .iaddr (.slice 10) (.t 72) (.t 74)⟩,
            ⟨some 76, some (66, true), .load 10 true (.t 75)⟩,
            ⟨some 77, some (66, true), .call false 25 [(.t 76)]⟩,
            ⟨some 78, some (66, true), .bin .lss (.t 71) (.t 77)⟩,
            ⟨some 79, some (63, false), .pick (.t 66) (.t 78) (.c (.bool false))⟩,
            ⟨some 80, none, .pick (.t 63) (.c (.bool true)) (.t 79)⟩])
           (.cond (.t 80)
            (.seq
             (.reg [⟨some 2, none, .mov (.c (.bool false))⟩])
             .ret)
            .skip))))
        (.reg [⟨some 9, none, .mov (.t 3)⟩,
         ⟨some 10, none, .bin .add (.t 9) (.c (.int .i64 1))⟩,
         ⟨some 3, none, .mov (.t 10)⟩])))
/-- tracebook/tracebooklaw31.valid -/
def c22 : AFn := ⟨1, 81, [.t 2],
 (.seq
  (.reg [⟨some 2, none, .mov (.c (.bool false))⟩])
  (.seq
   (.seq
    (.reg [⟨some 3, none, .mov (.c (.int .i64 0))⟩])
    (.block 0
     (.loop [0, 3]
      c22b0)))
   (.seq
    (.reg [⟨some 2, none, .mov (.c (.bool true))⟩])
    .ret))), none⟩
def k22 : List (List Nat) := [[0, 3]]
def o22 : List Nat := [1000030, 1000032, 1000040, 1000045, 1000049, 1000051, 1000052, 1000055, 1000056, 1000057, 1000058, 1000059, 1000060, 1000061, 1000062, 1000065, 1000066, 1000069, 1000070, 1000071, 1000072, 3000000]
def c23b0 : AC := (.seq
        (.seq
         (.reg [⟨some 7, none, .mov (.t 6)⟩,
          ⟨some 8, none, .mov (.t 0)⟩,
          ⟨some 9, none, .len (.t 8)⟩,
          ⟨some 10, none, .bin .lss (.t 7) (.t 9)⟩])
         (.cond (.t 10)
          .skip
          (.exit 0)))
        (.seq
         (.block 1
          (.seq
           (.reg [⟨some 13, none, .mov (.t 0)⟩,
            ⟨some 14, none, .mov (.t 6)⟩,
            ⟨some 15, none, .iaddr (.slice 10) (.t 13) (.t 14)⟩,
            ⟨some 16, none, .faddr 2 (.t 15)⟩,
            ⟨some 17, none, .faddr 1 (.t 16)⟩,
            ⟨some 18, none, .load 1 false (.t 17)⟩,
            ⟨some 19, none, .mov (.t 1)⟩,
            ⟨some 20, none, .bin .eql (.t 18) (.t 19)⟩])
           (.cond (.t 20)
            (.reg [⟨some 21, none, .mov (.t 5)⟩,
             ⟨some 22, none, .bin .add (.t 21) (.c (.int .i64 1))⟩,
             ⟨some 5, none, .mov (.t 22)⟩])
            .skip)))
         (.reg [⟨some 11, none, .mov (.t 6)⟩,
          ⟨some 12, none, .bin .add (.t 11) (.c (.int .i64 1))⟩,
          ⟨some 6, none, .mov (.t 12)⟩])))
/-- tracebook/tracebooklaw31.count -/
def c23 : AFn := ⟨2, 24, [.t 4],
 (.seq
  (.reg [⟨some 4, none, .mov (.c (.int .i64 0))⟩])
  (.seq
   (.reg [⟨some 5, none, .mov (.c (.int .i64 0))⟩])
   (.seq
    (.seq
     (.reg [⟨some 6, none, .mov (.c (.int .i64 0))⟩])
     (.block 0
      (.loop [0, 1, 5, 6]
       c23b0)))
    (.seq
     (.reg [⟨some 23, none, .mov (.t 5)⟩,
      ⟨some 4, none, .mov (.t 23)⟩])
     .ret)))), none⟩
def k23 : List (List Nat) := [[0, 1, 5, 6]]
def o23 : List Nat := [1000030, 1000032, 1000040, 1000045, 1000049, 1000051, 1000052, 1000055, 1000056, 1000057, 1000058, 1000059, 1000060, 1000061, 1000062, 1000065, 1000066, 1000069, 1000070, 1000071, 1000072, 3000000]
/-- tracebook/tracebookref31.End -/
def c24 : AFn := ⟨2, 20, [.t 4],
 (.seq
  (.reg [⟨some 4, none, .mov (.c (.int .i64 0))⟩])
  (.seq
   (.seq
    (.reg [⟨some 5, none, .mov (.t 0)⟩,
     ⟨some 6, none, .len (.t 5)⟩,
     ⟨some 7, none, .bin .gtr (.t 6) (.c (.int .i64 0))⟩])
    (.cond (.t 7)
     (.reg [⟨some 8, none, .mov (.t 1)⟩,
      ⟨some 9, none, .mov (.t 0)⟩,
      ⟨some 10, none, .mov (.t 0)⟩,
      ⟨some 11, none, .len (.t 10)⟩,
      ⟨some 12, none, .bin .sub (.t 11) (.c (.int .i64 1))⟩,
      ⟨some 13, none, .iaddr (.slice 10) (.t 9) (.t 12)⟩,
      ⟨some 14, none, .load 10 true (.t 13)⟩,
      ⟨some 15, none, .call false 25 [(.t 14)]⟩,
      ⟨some 16, none, .max [(.t 8), (.t 15)]⟩,
      ⟨some 1, none, .mov (.t 16)⟩])
     .skip))
   (.seq
    (.reg [⟨some 17, none, .mov (.t 1)⟩,
     ⟨some 18, none, .max [(.t 17), (.c (.int .i64 0))]⟩,
     ⟨some 19, none, .min [(.t 18), (.c (.int .i64 1000000000000))]⟩,
     ⟨some 4, none, .mov (.t 19)⟩])
    .ret))), none⟩
def k24 : List (List Nat) := []
def o24 : List Nat := [1000030, 1000032, 1000040, 1000045, 1000049, 1000051, 1000052, 1000055, 1000056, 1000057, 1000058, 1000059, 1000060, 1000061, 1000062, 1000065, 1000066, 1000069, 1000070, 1000071, 1000072, 3000000]
/-- tracebook/tracebookref28.Time -/
def c25 : AFn := ⟨1, 8, [.t 2],
 (.seq
  (.reg [⟨some 1, none, .box (.t 0)⟩,
   ⟨some 2, none, .mov (.c (.int .i64 0))⟩])
  (.seq
   (.reg [⟨some 3, none, .faddr 8 (.t 1)⟩,
    ⟨some 4, none, .faddr 0 (.t 3)⟩,
    ⟨some 5, none, .load 1 false (.t 4)⟩,
    ⟨some 6, none, .max [(.t 5), (.c (.int .i64 0))]⟩,
    ⟨some 7, none, .min [(.t 6), (.c (.int .i64 1000000000000))]⟩,
    ⟨some 2, none, .mov (.t 7)⟩])
   .ret)), none⟩
def k25 : List (List Nat) := []
def o25 : List Nat := [1000030, 1000032, 1000040, 1000045, 1000049, 1000051, 1000052, 1000055, 1000056, 1000057, 1000058, 1000059, 1000060, 1000061, 1000062, 1000065, 1000066, 1000069, 1000070, 1000071, 1000072, 3000000]
/-- tracebook/tracebookref31.SameBlock -/
def c26 : AFn := ⟨2, 45, [.t 4],
 (.seq
  (.reg [⟨some 2, none, .box (.t 0)⟩,
   ⟨some 3, none, .box (.t 1)⟩,
   ⟨some 4, none, .mov (.c (.bool false))⟩])
  (.seq
   (.reg [⟨some 5, none, .faddr 0 (.t 2)⟩,
    ⟨some 6, none, .load 1 false (.t 5)⟩,
    ⟨some 7, none, .faddr 0 (.t 3)⟩,
    ⟨some 8, none, .load 1 false (.t 7)⟩,
    ⟨some 9, none, .bin .eql (.t 6) (.t 8)⟩,
    ⟨some 10, none, .mov (.t 9)⟩,
    ⟨some 11, some (10, true), .faddr 1 (.t 2)⟩,
    ⟨some 12, some (10, true), .load 1 false (.t 11)⟩,
    ⟨some 13, some (10, true), .faddr 1 (.t 3)⟩,
    ⟨some 14, some (10, true), .load 1 false (.t 13)⟩,
    ⟨some 15, some (10, true), .bin .eql (.t 12) (.t 14)⟩,
    ⟨some 16, none, .pick (.t 10) (.t 15) (.c (.bool false))⟩,
    ⟨some 17, none, .mov (.t 16)⟩,
    ⟨some 18, some (17, true), .faddr 2 (.t 2)⟩,
    ⟨some 19, some (17, true), .load 1 false (.t 18)⟩,
    ⟨some 20, some (17, true), .faddr 2 (.t 3)⟩,
    ⟨some 21, some (17, true), .load 1 false (.t 20)⟩,
    ⟨some 22, some (17, true), .bin .eql (.t 19) (.t 21)⟩,
    ⟨some 23, none, .pick (.t 17) (.t 22) (.c (.bool false))⟩,
    ⟨some 24, none, .mov (.t 23)⟩,
    ⟨some 25, some (24, true), .faddr 3 (.t 2)⟩,
    ⟨some 26, some (24, true), .load 2 true (.t 25)⟩,
    ⟨some 27, some (24, true), .faddr 3 (.t 3)⟩,
    ⟨some 28, some (24, true), .load 2 true (.t 27)⟩,
    ⟨some 29, some (24, true), .beqA false [.i, .i] (.t 26) (.t 28)⟩,
    ⟨some 30, none, .pick (.t 24) (.t 29) (.c (.bool false))⟩,
    ⟨some 31, none, .mov (.t 30)⟩,
    ⟨some 32, some (31, true), .faddr 6 (.t 2)⟩,
    ⟨some 33, some (31, true), .load 1 false (.t 32)⟩,
    ⟨some 34, some (31, true), .faddr 6 (.t 3)⟩,
    ⟨some 35, some (31, true), .load 1 false (.t 34)⟩,
    ⟨some 36, some (31, true), .beq false (.t 33) (.t 35)⟩,
    ⟨some 37, none, .pick (.t 31) (.t 36) (.c (.bool false))⟩,
    ⟨some 38, none, .mov (.t 37)⟩,
    ⟨some 39, some (38, true), .faddr 5 (.t 2)⟩,
    ⟨some 40, some (38, true), .load 1 false (.t 39)⟩,
    ⟨some 41, some (38, true), .faddr 5 (.t 3)⟩,
    ⟨some 42, some (38, true), .load 1 false (.t 41)⟩,
    ⟨some 43, some (38, true), .call false 42 [(.t 40), (.t 42)]⟩,
    ⟨some 44, none, .pick (.t 38) (.t 43) (.c (.bool false))⟩,
    ⟨some 4, none, .mov (.t 44)⟩])
   .ret)), none⟩
def k26 : List (List Nat) := []
def o26 : List Nat := [1000030, 1000032, 1000040, 1000045, 1000049, 1000051, 1000052, 1000055, 1000056, 1000057, 1000058, 1000059, 1000060, 1000061, 1000062, 1000065, 1000066, 1000069, 1000070, 1000071, 1000072, 3000000]
/-- tracebook/tracebooklaw31.at -/
def c27 : AFn := ⟨5, 22, [.c 10 10 true],
 (.seq
  (.reg [⟨some 10, none, .alloc [(.int .i64 0), (.int .i64 0), (.int .i64 0), (.int .i64 0), (.str []), (.int .i64 0), (.int .i64 0), .nilS, (.int .i64 0), (.int .i64 0)]⟩])
  (.seq
   (.reg [⟨some 11, none, .mov (.t 0)⟩,
    ⟨some 12, none, .build [(.int .i64 0), (.int .i64 0)] [(0, 1, (.t 11))]⟩,
    ⟨some 13, none, .mov (.t 1)⟩,
    ⟨some 14, none, .mov (.t 2)⟩,
    ⟨some 15, none, .mov (.t 3)⟩,
    ⟨some 16, none, .mov (.t 4)⟩,
    ⟨some 17, none, .build [(.int .i64 0), (.int .i64 0), (.str []), (.int .i64 0), (.int .i64 0), .nilS] [(0, 1, (.t 13)), (1, 1, (.t 14)), (3, 1, (.t 15)), (4, 1, (.t 16))]⟩,
    ⟨some 18, none, .mov (.t 1)⟩,
    ⟨some 19, none, .mov (.t 1)⟩,
    ⟨some 20, none, .build [(.int .i64 0), (.int .i64 0)] [(0, 1, (.t 18)), (1, 1, (.t 19))]⟩,
    ⟨some 21, none, .build [(.int .i64 0), (.int .i64 0), (.int .i64 0), (.int .i64 0), (.str []), (.int .i64 0), (.int .i64 0), .nilS, (.int .i64 0), (.int .i64 0)] [(0, 2, (.t 12)), (2, 6, (.t 17)), (8, 2, (.t 20))]⟩,
    ⟨none, none, .store 10 (.t 10) (.t 21)⟩])
   .ret)), none⟩
def k27 : List (List Nat) := []
def o27 : List Nat := [1000030, 1000032, 1000040, 1000045, 1000049, 1000051, 1000052, 1000055, 1000056, 1000057, 1000058, 1000059, 1000060, 1000061, 1000062, 1000065, 1000066, 1000069, 1000070, 1000071, 1000072, 3000000]
/-- tracebook/memory.endOf -/
def c28 : AFn := ⟨2, 19, [.t 4],
 (.seq
  (.reg [⟨some 4, none, .mov (.c (.int .i64 0))⟩])
  (.seq
   (.seq
    (.reg [⟨some 5, none, .mov (.t 0)⟩,
     ⟨some 6, none, .len (.t 5)⟩,
     ⟨some 7, none, .bin .gtr (.t 6) (.c (.int .i64 0))⟩])
    (.cond (.t 7)
     (.reg [⟨some 8, none, .mov (.t 1)⟩,
      ⟨some 9, none, .mov (.t 0)⟩,
      ⟨some 10, none, .mov (.t 0)⟩,
      ⟨some 11, none, .len (.t 10)⟩,
      ⟨some 12, none, .bin .sub (.t 11) (.c (.int .i64 1))⟩,
      ⟨some 13, none, .iaddr (.slice 10) (.t 9) (.t 12)⟩,
      ⟨some 14, none, .load 10 true (.t 13)⟩,
      ⟨some 15, none, .call false 29 [(.t 14)]⟩,
      ⟨some 16, none, .max [(.t 8), (.t 15)]⟩,
      ⟨some 1, none, .mov (.t 16)⟩])
     .skip))
   (.seq
    (.reg [⟨some 17, none, .mov (.t 1)⟩,
     ⟨some 18, none, .call false 43 [(.t 17)]⟩,
     ⟨some 4, none, .mov (.t 18)⟩])
    .ret))), none⟩
def k28 : List (List Nat) := []
def o28 : List Nat := [1000030, 1000032, 1000040, 1000045, 1000049, 1000051, 1000052, 1000055, 1000056, 1000057, 1000058, 1000059, 1000060, 1000061, 1000062, 1000065, 1000066, 1000069, 1000070, 1000071, 1000072, 3000000]
/-- tracebook/memory.timeOf -/
def c29 : AFn := ⟨1, 7, [.t 2],
 (.seq
  (.reg [⟨some 1, none, .box (.t 0)⟩,
   ⟨some 2, none, .mov (.c (.int .i64 0))⟩])
  (.seq
   (.reg [⟨some 3, none, .faddr 8 (.t 1)⟩,
    ⟨some 4, none, .faddr 0 (.t 3)⟩,
    ⟨some 5, none, .load 1 false (.t 4)⟩,
    ⟨some 6, none, .call false 43 [(.t 5)]⟩,
    ⟨some 2, none, .mov (.t 6)⟩])
   .ret)), none⟩
def k29 : List (List Nat) := []
def o29 : List Nat := [1000030, 1000032, 1000040, 1000045, 1000049, 1000051, 1000052, 1000055, 1000056, 1000057, 1000058, 1000059, 1000060, 1000061, 1000062, 1000065, 1000066, 1000069, 1000070, 1000071, 1000072, 3000000]
def c30b0 : AC := (.seq
         (.seq
          (.reg [⟨some 16, none, .mov (.t 6)⟩,
           ⟨some 17, none, .mov (.t 0)⟩,
           ⟨some 18, none, .len (.t 17)⟩,
           ⟨some 19, none, .bin .lss (.t 16) (.t 18)⟩])
          (.cond (.t 19)
           .skip
           (.exit 0)))
         (.seq
          (.block 1
           (.seq
            (.reg [⟨some 22, none, .mov (.t 0)⟩,
             ⟨some 23, none, .mov (.t 6)⟩,
             ⟨some 24, none, .iaddr (.slice 7) (.t 22) (.t 23)⟩,
             ⟨some 25, none, .load 7 true (.t 24)⟩,
             ⟨some 7, none, .alloc [(.int .i64 0), (.int .i64 0), (.int .i64 0), (.int .i64 0), (.int .i64 0), .nilS, (.bool false)]⟩,
             ⟨none, none, .store 7 (.t 7) (.t 25)⟩])
            (.seq
             (.reg [⟨some 26, none, .mov (.t 1)⟩,
              ⟨some 27, none, .load 7 true (.t 7)⟩,
              ⟨some 28, none, .calld false (.t 26) [(.t 27)]⟩,
              ⟨some 29, none, .un .not (.t 28)⟩])
             (.cond (.t 29)
              (.seq
               (.reg [⟨some 30, none, .mov (.t 0)⟩,
                ⟨some 31, none, .mov (.t 5)⟩,
                ⟨some 32, none, .load 7 true (.t 7)⟩,
                ⟨some 33, none, .iaddr (.slice 7) (.t 30) (.t 31)⟩,
                ⟨none, none, .store 7 (.t 33) (.t 32)⟩])
               (.reg [⟨some 34, none, .mov (.t 5)⟩,
                ⟨some 35, none, .bin .add (.t 34) (.c (.int .i64 1))⟩,
                ⟨some 5, none, .mov (.t 35)⟩]))
              .skip))))
          (.reg [⟨some 20, none, .mov (.t 6)⟩,
           ⟨some 21, none, .bin .add (.t 20) (.c (.int .i64 1))⟩,
           ⟨some 6, none, .mov (.t 21)⟩])))
/-- slices.DeleteFunc[[]tracebook/api.Block,tracebook/api.Block] -/
def c30 : AFn := ⟨2, 42, [.t 4],
 (.seq
  (.reg [⟨some 4, none, .nilv 7⟩])
  (.seq
   (.reg [⟨some 8, none, .mov (.t 0)⟩,
    ⟨some 9, none, .mov (.t 1)⟩,
    ⟨some 10, none, .call false 44 [(.t 8), (.t 9)]⟩,
    ⟨some 5, none, .mov (.t 10)⟩])
   (.seq
    (.seq
     (.reg [⟨some 11, none, .mov (.t 5)⟩,
      ⟨some 12, none, .bin .eql (.t 11) (.c (.int .i64 (-1)))⟩])
     (.cond (.t 12)
      (.seq
       (.reg [⟨some 13, none, .mov (.t 0)⟩,
        ⟨some 4, none, .mov (.t 13)⟩])
       .ret)
      .skip))
    (.seq
     (.seq
      (.reg [⟨some 14, none, .mov (.t 5)⟩,
       ⟨some 15, none, .bin .add (.t 14) (.c (.int .i64 1))⟩,
       ⟨some 6, none, .mov (.t 15)⟩])
      (.block 0
       (.loop [0, 1, 5, 6]
        c30b0)))
     (.seq
      (.reg [⟨some 36, none, .mov (.t 0)⟩,
       ⟨some 37, none, .mov (.t 5)⟩,
       ⟨some 38, none, .slc (.slice 7) (.t 36) (some (.t 37)) none none⟩,
       ⟨none, none, .clr 7 [(.int .i64 0), (.int .i64 0), (.int .i64 0), (.int .i64 0), (.int .i64 0), .nilS, (.bool false)] (.t 38)⟩])
      (.seq
       (.reg [⟨some 39, none, .mov (.t 0)⟩,
        ⟨some 40, none, .mov (.t 5)⟩,
        ⟨some 41, none, .slc (.slice 7) (.t 39) none (some (.t 40)) none⟩,
        ⟨some 4, none, .mov (.t 41)⟩])
       .ret)))))), none⟩
def k30 : List (List Nat) := [[0, 1, 5, 6]]
def o30 : List Nat := [1000030, 1000032, 1000040, 1000045, 1000049, 1000051, 1000052, 1000055, 1000056, 1000057, 1000058, 1000059, 1000060, 1000061, 1000062, 1000065, 1000066, 1000069, 1000070, 1000071, 1000072, 3000000]
/-- tracebook/memory.Of$1 -/
def c31 : AFn := ⟨1, 10, [.t 2],
 (.seq
  (.reg [⟨some 1, none, .box (.t 0)⟩,
   ⟨some 2, none, .mov (.c (.bool false))⟩])
  (.seq
   (.reg [⟨some 3, none, .faddr 3 (.t 1)⟩,
    ⟨some 4, none, .faddr 1 (.t 3)⟩,
    ⟨some 5, none, .load 1 false (.t 4)⟩,
    ⟨some 6, none, .faddr 3 (.t 1)⟩,
    ⟨some 7, none, .faddr 0 (.t 6)⟩,
    ⟨some 8, none, .load 1 false (.t 7)⟩,
    ⟨some 9, none, .bin .leq (.t 5) (.t 8)⟩,
    ⟨some 2, none, .mov (.t 9)⟩])
   .ret)), none⟩
def k31 : List (List Nat) := []
def o31 : List Nat := [1000030, 1000032, 1000040, 1000045, 1000049, 1000051, 1000052, 1000055, 1000056, 1000057, 1000058, 1000059, 1000060, 1000061, 1000062, 1000065, 1000066, 1000069, 1000070, 1000071, 1000072, 3000000]
/-- slices.SortStableFunc[[]tracebook/api.Block,tracebook/api.Block] -/
def c32 : AFn := ⟨2, 9, [],
 (.reg [⟨some 4, none, .mov (.t 0)⟩,
  ⟨some 5, none, .mov (.t 0)⟩,
  ⟨some 6, none, .len (.t 5)⟩,
  ⟨some 7, none, .mov (.t 1)⟩,
  ⟨some 8, none, .callS 45 [(.t 4), (.t 6), (.t 7)]⟩]), none⟩
def k32 : List (List Nat) := []
def o32 : List Nat := [1000030, 1000032, 1000040, 1000045, 1000049, 1000051, 1000052, 1000055, 1000056, 1000057, 1000058, 1000059, 1000060, 1000061, 1000062, 1000065, 1000066, 1000069, 1000070, 1000071, 1000072, 3000000]
/-- tracebook/memory.Of$2 -/
def c33 : AFn := ⟨2, 12, [.t 4],
 (.seq
  (.reg [⟨some 2, none, .box (.t 0)⟩,
   ⟨some 3, none, .box (.t 1)⟩,
   ⟨some 4, none, .mov (.c (.int .i64 0))⟩])
  (.seq
   (.reg [⟨some 5, none, .faddr 3 (.t 2)⟩,
    ⟨some 6, none, .faddr 0 (.t 5)⟩,
    ⟨some 7, none, .load 1 false (.t 6)⟩,
    ⟨some 8, none, .faddr 3 (.t 3)⟩,
    ⟨some 9, none, .faddr 0 (.t 8)⟩,
    ⟨some 10, none, .load 1 false (.t 9)⟩,
    ⟨some 11, none, .call false 34 [(.t 7), (.t 10)]⟩,
    ⟨some 4, none, .mov (.t 11)⟩])
   .ret)), none⟩
def k33 : List (List Nat) := []
def o33 : List Nat := [1000030, 1000032, 1000040, 1000045, 1000049, 1000051, 1000052, 1000055, 1000056, 1000057, 1000058, 1000059, 1000060, 1000061, 1000062, 1000065, 1000066, 1000069, 1000070, 1000071, 1000072, 3000000]
/-- cmp.Compare[int] -/
def c34 : AFn := ⟨2, 20, [.t 4],
 (.seq
  (.reg [⟨some 4, none, .mov (.c (.int .i64 0))⟩])
  (.seq
   (.reg [⟨some 7, none, .mov (.t 0)⟩,
    ⟨some 8, none, .call false 46 [(.t 7)]⟩,
    ⟨some 5, none, .mov (.t 8)⟩])
   (.seq
    (.reg [⟨some 9, none, .mov (.t 1)⟩,
     ⟨some 10, none, .call false 46 [(.t 9)]⟩,
     ⟨some 6, none, .mov (.t 10)⟩])
    (.seq
     (.seq
      (.reg [⟨some 11, none, .mov (.t 5)⟩])
      (.cond (.t 11)
       (.seq
        (.seq
         (.reg [⟨some 12, none, .mov (.t 6)⟩])
         (.cond (.t 12)
          (.seq
           (.reg [⟨some 4, none, .mov (.c (.int .i64 0))⟩])
           .ret)
          .skip))
        (.seq
         (.reg [⟨some 4, none, .mov (.c (.int .i64 (-1)))⟩])
         .ret))
       .skip))
     (.seq
      (.seq
       (.reg [⟨some 13, none, .mov (.t 6)⟩])
       (.cond (.t 13)
        (.seq
         (.reg [⟨some 4, none, .mov (.c (.int .i64 1))⟩])
         .ret)
        .skip))
      (.seq
       (.seq
        (.reg [⟨some 14, none, .mov (.t 0)⟩,
         ⟨some 15, none, .mov (.t 1)⟩,
         ⟨some 16, none, .bin .lss (.t 14) (.t 15)⟩])
        (.cond (.t 16)
         (.seq
          (.reg [⟨some 4, none, .mov (.c (.int .i64 (-1)))⟩])
          .ret)
         .skip))
       (.seq
        (.seq
         (.reg [⟨some 17, none, .mov (.t 0)⟩,
          ⟨some 18, none, .mov (.t 1)⟩,
          ⟨some 19, none, .bin .gtr (.t 17) (.t 18)⟩])
         (.cond (.t 19)
          (.seq
           (.reg [⟨some 4, none, .mov (.c (.int .i64 1))⟩])
           .ret)
          .skip))
        (.seq
         (.reg [⟨some 4, none, .mov (.c (.int .i64 0))⟩])
         .ret)))))))), none⟩
def k34 : List (List Nat) := []
def o34 : List Nat := [1000030, 1000032, 1000040, 1000045, 1000049, 1000051, 1000052, 1000055, 1000056, 1000057, 1000058, 1000059, 1000060, 1000061, 1000062, 1000065, 1000066, 1000069, 1000070, 1000071, 1000072, 3000000]
def c35b0 : AC := (.seq
         (.seq
          (.reg [⟨some 40, none, .mov (.t 9)⟩,
           ⟨some 41, none, .mov (.t 0)⟩,
           ⟨some 42, none, .len (.t 41)⟩,
           ⟨some 43, none, .bin .lss (.t 40) (.t 42)⟩])
          (.cond (.t 43)
           .skip
           (.exit 0)))
         (.seq
          (.block 1
           (.seq
            (.reg [⟨some 46, none, .mov (.t 0)⟩,
             ⟨some 47, none, .mov (.t 9)⟩,
             ⟨some 48, none, .iaddr (.slice 10) (.t 46) (.t 47)⟩,
             ⟨some 49, none, .faddr 2 (.t 48)⟩,
             ⟨some 50, none, .load 6 true (.t 49)⟩,
             ⟨some 10, none, .alloc [(.int .i64 0), (.int .i64 0), (.str []), (.int .i64 0), (.int .i64 0), .nilS]⟩,
             ⟨none, none, .store 6 (.t 10) (.t 50)⟩])
            (.seq
             (.reg [⟨some 51, none, .faddr 6 (.t 8)⟩,
              ⟨some 52, none, .load 1 false (.t 51)⟩,
              ⟨some 53, none, .mov (.t 52)⟩,
              ⟨some 54, some (53, true), .faddr 3 (.t 10)⟩,
              ⟨some 55, some (53, true), .load 1 false (.t 54)⟩,
              ⟨some 56, some (53, true), .faddr 3 (.t 7)⟩,
              ⟨some 57, some (53, true), .load 1 false (.t 56)⟩,
              ⟨some 58, some (53, true), .bin .eql (.t 55) (.t 57)⟩,
              ⟨some 59, none, .pick (.t 53) (.t 58) (.c (.bool false))⟩,
              ⟨some 60, none, .mov (.t 59)⟩,
              ⟨some 61, some (60, true), .faddr 1 (.t 10)⟩,
              ⟨some 62, some (60, true), .load 1 false (.t 61)⟩,
              ⟨some 63, some (60, true), .bin .eql (.t 62) (.c (.int .i64 12))⟩,
              ⟨some 64, some (60, true), .mov (.t 63)⟩,
              ⟨some 65, some (64, false), .faddr 1 (.t 10)⟩,
              ⟨some 66, some (64, false), .load 1 false (.t 65)⟩,
              ⟨some 67, some (64, false), .bin .eql (.t 66) (.c (.int .i64 11))⟩,
              ⟨some 68, some (60, true), .pick (.t 64) (.c (.bool true)) (.t 67)⟩,
              ⟨some 69, none, .pick (.t 60) (.t 68) (.c (.bool false))⟩])
             (.cond (.t 69)
              (.seq
               (.reg [⟨some 70, none, .faddr 6 (.t 8)⟩,
                ⟨none, none, .store 1 (.t 70) (.c (.bool false))⟩])
               (.reg [⟨some 71, none, .mov (.t 0)⟩,
                ⟨some 72, none, .mov (.t 9)⟩,
                ⟨some 73, none, .iaddr (.slice 10) (.t 71) (.t 72)⟩,
                ⟨some 74, none, .load 10 true (.t 73)⟩,
                ⟨some 75, none, .call false 25 [(.t 74)]⟩,
                ⟨some 76, none, .faddr 3 (.t 8)⟩,
                ⟨some 77, none, .faddr 1 (.t 76)⟩,
                ⟨none, none, .store 1 (.t 77) (.t 75)⟩]))
              .skip))))
          (.reg [⟨some 44, none, .mov (.t 9)⟩,
           ⟨some 45, none, .bin .add (.t 44) (.c (.int .i64 1))⟩,
           ⟨some 9, none, .mov (.t 45)⟩])))
/-- tracebook/tracebookref31.block -/
def c35 : AFn := ⟨3, 79, [.c 6 7 true],
 (.seq
  (.reg [⟨some 6, none, .alloc [(.int .i64 0), (.int .i64 0), (.int .i64 0), (.int .i64 0), (.int .i64 0), .nilS, (.bool false)]⟩])
  (.seq
   (.reg [⟨some 11, none, .mov (.t 0)⟩,
    ⟨some 12, none, .mov (.t 1)⟩,
    ⟨some 13, none, .iaddr (.slice 10) (.t 11) (.t 12)⟩,
    ⟨some 14, none, .faddr 2 (.t 13)⟩,
    ⟨some 15, none, .load 6 true (.t 14)⟩,
    ⟨some 7, none, .alloc [(.int .i64 0), (.int .i64 0), (.str []), (.int .i64 0), (.int .i64 0), .nilS]⟩,
    ⟨none, none, .store 6 (.t 7) (.t 15)⟩])
   (.seq
    (.reg [⟨some 16, none, .faddr 3 (.t 7)⟩,
     ⟨some 17, none, .load 1 false (.t 16)⟩,
     ⟨some 18, none, .mov (.t 0)⟩,
     ⟨some 19, none, .mov (.t 1)⟩,
     ⟨some 20, none, .iaddr (.slice 10) (.t 18) (.t 19)⟩,
     ⟨some 21, none, .faddr 0 (.t 20)⟩,
     ⟨some 22, none, .faddr 0 (.t 21)⟩,
     ⟨some 23, none, .load 1 false (.t 22)⟩,
     ⟨some 24, none, .faddr 4 (.t 7)⟩,
     ⟨some 25, none, .load 1 false (.t 24)⟩,
     ⟨some 26, none, .mov (.t 0)⟩,
     ⟨some 27, none, .mov (.t 1)⟩,
     ⟨some 28, none, .iaddr (.slice 10) (.t 26) (.t 27)⟩,
     ⟨some 29, none, .load 10 true (.t 28)⟩,
     ⟨some 30, none, .call false 25 [(.t 29)]⟩,
     ⟨some 31, none, .mov (.t 0)⟩,
     ⟨some 32, none, .mov (.t 2)⟩,
     ⟨some 33, none, .call false 24 [(.t 31), (.t 32)]⟩,
     ⟨some 34, none, .build [(.int .i64 0), (.int .i64 0)] [(0, 1, (.t 30)), (1, 1, (.t 33))]⟩,
     ⟨some 35, none, .faddr 5 (.t 7)⟩,
     ⟨some 36, none, .load 1 false (.t 35)⟩,
     ⟨some 37, none, .build [(.int .i64 0), (.int .i64 0), (.int .i64 0), (.int .i64 0), (.int .i64 0), .nilS, (.bool false)] [(0, 1, (.t 17)), (1, 1, (.t 23)), (2, 1, (.t 25)), (3, 2, (.t 34)), (5, 1, (.t 36)), (6, 1, (.c (.bool true)))]⟩,
     ⟨some 8, none, .alloc [(.int .i64 0), (.int .i64 0), (.int .i64 0), (.int .i64 0), (.int .i64 0), .nilS, (.bool false)]⟩,
     ⟨none, none, .store 7 (.t 8) (.t 37)⟩])
    (.seq
     (.seq
      (.reg [⟨some 38, none, .mov (.t 1)⟩,
       ⟨some 39, none, .bin .add (.t 38) (.c (.int .i64 1))⟩,
       ⟨some 9, none, .mov (.t 39)⟩])
      (.block 0
       (.loop [0, 6, 7, 8, 9]
        c35b0)))
     (.seq
      (.reg [⟨some 78, none, .load 7 true (.t 8)⟩,
       ⟨none, none, .store 7 (.t 6) (.t 78)⟩])
      .ret))))), none⟩
def k35 : List (List Nat) := [[0, 6, 7, 8, 9]]
def o35 : List Nat := [1000030, 1000032, 1000040, 1000045, 1000049, 1000051, 1000052, 1000055, 1000056, 1000057, 1000058, 1000059, 1000060, 1000061, 1000062, 1000065, 1000066, 1000069, 1000070, 1000071, 1000072, 3000000]
def c36b0 : AC := (.seq
       (.seq
        (.reg [⟨some 9, none, .mov (.t 5)⟩,
         ⟨some 10, none, .bin .gtr (.t 9) (.c (.int .i64 0))⟩,
         ⟨some 11, none, .mov (.t 10)⟩,
         ⟨some 12, some (11, true), .mov (.t 0)⟩,
         ⟨some 13, some (11, true), .mov (.t 5)⟩,
         ⟨some 14, some (11, true), .bin .sub (.t 13) (.c (.int .i64 1))⟩,
         ⟨some 15, some (11, true), .iaddr (.slice 7) (.t 12) (.t 14)⟩,
         ⟨some 16, some (11, true), .faddr 3 (.t 15)⟩,
         ⟨some 17, some (11, true), .faddr 0 (.t 16)⟩,
         ⟨some 18, some (11, true), .load 1 false (.t 17)⟩,
         ⟨some 19, some (11, true), .faddr 3 (.t 3)⟩,
         ⟨some 20, some (11, true), .faddr 0 (.t 19)⟩,
         ⟨some 21, some (11, true), .load 1 false (.t 20)⟩,
         ⟨some 22, some (11, true), .bin .gtr (.t 18) (.t 21)⟩,
         ⟨some 23, none, .pick (.t 11) (.t 22) (.c (.bool false))⟩])
        (.cond (.t 23)
         .skip
         (.exit 0)))
       (.block 1
        (.reg [⟨some 24, none, .mov (.t 5)⟩,
         ⟨some 25, none, .bin .sub (.t 24) (.c (.int .i64 1))⟩,
         ⟨some 5, none, .mov (.t 25)⟩])))
/-- tracebook/tracebookref31.put -/
def c36 : AFn := ⟨2, 40, [.t 4],
 (.seq
  (.reg [⟨some 3, none, .box (.t 1)⟩,
   ⟨some 4, none, .nilv 7⟩])
  (.seq
   (.reg [⟨some 7, none, .mov (.t 0)⟩,
    ⟨some 8, none, .len (.t 7)⟩,
    ⟨some 5, none, .mov (.t 8)⟩])
   (.seq
    (.block 0
     (.loop [0, 3, 5]
      c36b0))
    (.seq
     (.reg [⟨some 26, none, .bslice true 7 [(.int .i64 0), (.int .i64 0), (.int .i64 0), (.int .i64 0), (.int .i64 0), .nilS, (.bool false)] 0 []⟩,
      ⟨some 27, none, .mov (.t 0)⟩,
      ⟨some 28, none, .mov (.t 5)⟩,
      ⟨some 29, none, .slc (.slice 7) (.t 27) none (some (.t 28)) none⟩,
      ⟨some 30, none, .append 7 72 (.t 26) (.t 29)⟩,
      ⟨some 6, none, .mov (.t 30)⟩])
     (.seq
      (.reg [⟨some 31, none, .mov (.t 6)⟩,
       ⟨some 32, none, .load 7 true (.t 3)⟩,
       ⟨some 33, none, .bslice false 7 [(.int .i64 0), (.int .i64 0), (.int .i64 0), (.int .i64 0), (.int .i64 0), .nilS, (.bool false)] 1 [(0, (.t 32))]⟩,
       ⟨some 34, none, .append 7 72 (.t 31) (.t 33)⟩,
       ⟨some 6, none, .mov (.t 34)⟩])
      (.seq
       (.reg [⟨some 35, none, .mov (.t 6)⟩,
        ⟨some 36, none, .mov (.t 0)⟩,
        ⟨some 37, none, .mov (.t 5)⟩,
        ⟨some 38, none, .slc (.slice 7) (.t 36) (some (.t 37)) none none⟩,
        ⟨some 39, none, .append 7 72 (.t 35) (.t 38)⟩,
        ⟨some 4, none, .mov (.t 39)⟩])
       .ret)))))), none⟩
def k36 : List (List Nat) := [[0, 3, 5]]
def o36 : List Nat := [1000030, 1000032, 1000040, 1000045, 1000049, 1000051, 1000052, 1000055, 1000056, 1000057, 1000058, 1000059, 1000060, 1000061, 1000062, 1000065, 1000066, 1000069, 1000070, 1000071, 1000072, 3000000, 26]
def c37b0 : AC := (.seq
        (.reg [⟨some 12, none, .bin .lss (.t 11) (.t 10)⟩])
        (.seq
         (.cond (.t 12)
          .skip
          (.exit 0))
         (.seq
          (.block 1
           (.seq
            (.reg [⟨some 13, none, .iaddr (.slice 1) (.t 9) (.t 11)⟩,
             ⟨some 14, none, .load 1 false (.t 13)⟩,
             ⟨some 4, none, .mov (.t 14)⟩])
            (.seq
             (.reg [⟨some 15, none, .mov (.t 4)⟩,
              ⟨some 16, none, .call false 47 [(.t 15)]⟩,
              ⟨some 5, none, .mov (.t 16)⟩])
             (.seq
              (.reg [⟨some 17, none, .mov (.t 5)⟩,
               ⟨some 18, none, .bin .neq (.t 17) (.c (.int .i64 0))⟩])
              (.cond (.t 18)
               (.seq
                (.reg [⟨some 19, none, .mov (.t 5)⟩,
                 ⟨some 2, none, .mov (.t 19)⟩])
                .ret)
               .skip)))))
          (.reg [⟨some 20, none, .bin .add (.t 11) (.c (.int .i64 1))⟩,
           ⟨some 11, none, .mov (.t 20)⟩]))))
/-- tracebook/intern.Frames -/
def c37 : AFn := ⟨1, 21, [.t 2],
 (.seq
  (.reg [⟨some 2, none, .mov (.c (.int .i64 0))⟩])
  (.seq
   (.seq
    (.reg [⟨some 6, none, .mov (.t 0)⟩,
     ⟨some 7, none, .len (.t 6)⟩,
     ⟨some 8, none, .bin .gtr (.t 7) (.c (.int .i64 32))⟩])
    (.cond (.t 8)
     (.seq
      (.reg [⟨some 2, none, .mov (.c (.int .i64 7))⟩])
      .ret)
     .skip))
   (.seq
    (.seq
     (.reg [⟨some 9, none, .mov (.t 0)⟩,
      ⟨some 10, none, .len (.t 9)⟩,
      ⟨some 11, none, .mov (.c (.int .i64 0))⟩])
     (.block 0
      (.loop [9, 10, 11]
       c37b0)))
    (.seq
     (.reg [⟨some 2, none, .mov (.c (.int .i64 0))⟩])
     .ret)))), none⟩
def k37 : List (List Nat) := [[9, 10, 11]]
def o37 : List Nat := [1000030, 1000032, 1000040, 1000045, 1000049, 1000051, 1000052, 1000055, 1000056, 1000057, 1000058, 1000059, 1000060, 1000061, 1000062, 1000065, 1000066, 1000069, 1000070, 1000071, 1000072, 3000000]
def c38b0 : AC := (.seq
        (.seq
         (.reg [⟨some 7, none, .mov (.t 3)⟩,
          ⟨some 8, none, .mov (.t 0)⟩,
          ⟨some 9, none, .len (.t 8)⟩,
          ⟨some 10, none, .bin .lss (.t 7) (.t 9)⟩])
         (.cond (.t 10)
          .skip
          (.exit 0)))
        (.seq
         (.block 1
          (.seq
           (.reg [⟨some 13, none, .mov (.t 0)⟩,
            ⟨some 14, none, .mov (.t 3)⟩,
            ⟨some 15, none, .iaddr (.slice 1) (.t 13) (.t 14)⟩,
            ⟨some 16, none, .load 1 false (.t 15)⟩,
            ⟨some 17, none, .call false 48 [(.t 16)]⟩,
            ⟨some 18, none, .bin .neq (.t 17) (.c (.int .i64 0))⟩])
           (.cond (.t 18)
            (.seq
             (.reg [⟨some 2, none, .mov (.c (.int .i64 3))⟩])
             .ret)
            .skip)))
         (.reg [⟨some 11, none, .mov (.t 3)⟩,
          ⟨some 12, none, .bin .add (.t 11) (.c (.int .i64 1))⟩,
          ⟨some 3, none, .mov (.t 12)⟩])))
/-- tracebook/tracebookref06.Frames -/
def c38 : AFn := ⟨1, 19, [.t 2],
 (.seq
  (.reg [⟨some 2, none, .mov (.c (.int .i64 0))⟩])
  (.seq
   (.seq
    (.reg [⟨some 4, none, .mov (.t 0)⟩,
     ⟨some 5, none, .len (.t 4)⟩,
     ⟨some 6, none, .bin .gtr (.t 5) (.c (.int .i64 32))⟩])
    (.cond (.t 6)
     (.seq
      (.reg [⟨some 2, none, .mov (.c (.int .i64 7))⟩])
      .ret)
     .skip))
   (.seq
    (.seq
     (.reg [⟨some 3, none, .mov (.c (.int .i64 0))⟩])
     (.block 0
      (.loop [0, 3]
       c38b0)))
    (.seq
     (.reg [⟨some 2, none, .mov (.c (.int .i64 0))⟩])
     .ret)))), none⟩
def k38 : List (List Nat) := [[0, 3]]
def o38 : List Nat := [1000030, 1000032, 1000040, 1000045, 1000049, 1000051, 1000052, 1000055, 1000056, 1000057, 1000058, 1000059, 1000060, 1000061, 1000062, 1000065, 1000066, 1000069, 1000070, 1000071, 1000072, 3000000]
/-- tracebook/tracebookref31.common -/
def c39 : AFn := ⟨2, 17, [.t 4],
 (.seq
  (.reg [⟨some 2, none, .box (.t 0)⟩,
   ⟨some 3, none, .box (.t 1)⟩,
   ⟨some 4, none, .mov (.c (.bool false))⟩])
  (.seq
   (.reg [⟨some 5, none, .faddr 0 (.t 2)⟩,
    ⟨some 6, none, .load 1 false (.t 5)⟩,
    ⟨some 7, none, .faddr 1 (.t 3)⟩,
    ⟨some 8, none, .load 1 false (.t 7)⟩,
    ⟨some 9, none, .bin .lss (.t 6) (.t 8)⟩,
    ⟨some 10, none, .mov (.t 9)⟩,
    ⟨some 11, some (10, true), .faddr 0 (.t 3)⟩,
    ⟨some 12, some (10, true), .load 1 false (.t 11)⟩,
    ⟨some 13, some (10, true), .faddr 1 (.t 2)⟩,
    ⟨some 14, some (10, true), .load 1 false (.t 13)⟩,
    ⟨some 15, some (10, true), .bin .lss (.t 12) (.t 14)⟩,
    ⟨some 16, none, .pick (.t 10) (.t 15) (.c (.bool false))⟩,
    ⟨some 4, none, .mov (.t 16)⟩])
   .ret)), none⟩
def k39 : List (List Nat) := []
def o39 : List Nat := [1000030, 1000032, 1000040, 1000045, 1000049, 1000051, 1000052, 1000055, 1000056, 1000057, 1000058, 1000059, 1000060, 1000061, 1000062, 1000065, 1000066, 1000069, 1000070, 1000071, 1000072, 3000000]
/-- slices.SortFunc[[]tracebook/memory.resize,tracebook/memory.resize] -/
def c40 : AFn := ⟨1, 0, [], .skip, some (.s xSortF)⟩
/-- tracebook/memory.Peak$1 -/
def c41 : AFn := ⟨2, 10, [.t 4],
 (.seq
  (.reg [⟨some 2, none, .box (.t 0)⟩,
   ⟨some 3, none, .box (.t 1)⟩,
   ⟨some 4, none, .mov (.c (.int .i64 0))⟩])
  (.seq
   (.reg [⟨some 5, none, .faddr 0 (.t 2)⟩,
    ⟨some 6, none, .load 1 false (.t 5)⟩,
    ⟨some 7, none, .faddr 0 (.t 3)⟩,
    ⟨some 8, none, .load 1 false (.t 7)⟩,
    ⟨some 9, none, .call false 34 [(.t 6), (.t 8)]⟩,
    ⟨some 4, none, .mov (.t 9)⟩])
   .ret)), none⟩
def k41 : List (List Nat) := []
def o41 : List Nat := [1000030, 1000032, 1000040, 1000045, 1000049, 1000051, 1000052, 1000055, 1000056, 1000057, 1000058, 1000059, 1000060, 1000061, 1000062, 1000065, 1000066, 1000069, 1000070, 1000071, 1000072, 3000000]
def c42b0 : AC := (.seq
        (.seq
         (.reg [⟨some 11, none, .mov (.t 5)⟩,
          ⟨some 12, none, .mov (.t 0)⟩,
          ⟨some 13, none, .len (.t 12)⟩,
          ⟨some 14, none, .bin .lss (.t 11) (.t 13)⟩])
         (.cond (.t 14)
          .skip
          (.exit 0)))
        (.seq
         (.block 1
          (.seq
           (.reg [⟨some 17, none, .mov (.t 0)⟩,
            ⟨some 18, none, .mov (.t 5)⟩,
            ⟨some 19, none, .iaddr (.slice 1) (.t 17) (.t 18)⟩,
            ⟨some 20, none, .load 1 false (.t 19)⟩,
            ⟨some 21, none, .mov (.t 1)⟩,
            ⟨some 22, none, .mov (.t 5)⟩,
            ⟨some 23, none, .iaddr (.slice 1) (.t 21) (.t 22)⟩,
            ⟨some 24, none, .load 1 false (.t 23)⟩,
            ⟨some 25, none, .bin .neq (.t 20) (.t 24)⟩])
           (.cond (.t 25)
            (.seq
             (.reg [⟨some 4, none, .mov (.c (.bool false))⟩])
             .ret)
            .skip)))
         (.reg [⟨some 15, none, .mov (.t 5)⟩,
          ⟨some 16, none, .bin .add (.t 15) (.c (.int .i64 1))⟩,
          ⟨some 5, none, .mov (.t 16)⟩])))
/-- tracebook/tracebookref06.SameNames -/
def c42 : AFn := ⟨2, 26, [.t 4],
 (.seq
  (.reg [⟨some 4, none, .mov (.c (.bool false))⟩])
  (.seq
   (.seq
    (.reg [⟨some 6, none, .mov (.t 0)⟩,
     ⟨some 7, none, .len (.t 6)⟩,
     ⟨some 8, none, .mov (.t 1)⟩,
     ⟨some 9, none, .len (.t 8)⟩,
     ⟨some 10, none, .bin .neq (.t 7) (.t 9)⟩])
    (.cond (.t 10)
     (.seq
      (.reg [⟨some 4, none, .mov (.c (.bool false))⟩])
      .ret)
     .skip))
   (.seq
    (.seq
     (.reg [⟨some 5, none, .mov (.c (.int .i64 0))⟩])
     (.block 0
      (.loop [0, 1, 5]
       c42b0)))
    (.seq
     (.reg [⟨some 4, none, .mov (.c (.bool true))⟩])
     .ret)))), none⟩
def k42 : List (List Nat) := [[0, 1, 5]]
def o42 : List Nat := [1000030, 1000032, 1000040, 1000045, 1000049, 1000051, 1000052, 1000055, 1000056, 1000057, 1000058, 1000059, 1000060, 1000061, 1000062, 1000065, 1000066, 1000069, 1000070, 1000071, 1000072, 3000000]
/-- tracebook/memory.clamp -/
def c43 : AFn := ⟨1, 6, [.t 2],
 (.seq
  (.reg [⟨some 2, none, .mov (.c (.int .i64 0))⟩])
  (.seq
   (.reg [⟨some 3, none, .mov (.t 0)⟩,
    ⟨some 4, none, .max [(.t 3), (.c (.int .i64 0))]⟩,
    ⟨some 5, none, .min [(.t 4), (.c (.int .i64 1000000000000))]⟩,
    ⟨some 2, none, .mov (.t 5)⟩])
   .ret)), none⟩
def k43 : List (List Nat) := []
def o43 : List Nat := [1000030, 1000032, 1000040, 1000045, 1000049, 1000051, 1000052, 1000055, 1000056, 1000057, 1000058, 1000059, 1000060, 1000061, 1000062, 1000065, 1000066, 1000069, 1000070, 1000071, 1000072, 3000000]
def c44b0 : AC := (.seq
       (.reg [⟨some 9, none, .bin .lss (.t 8) (.t 7)⟩])
       (.seq
        (.cond (.t 9)
         .skip
         (.exit 0))
        (.seq
         (.block 1
          (.seq
           (.reg [⟨some 10, none, .mov (.t 8)⟩,
            ⟨some 5, none, .mov (.t 10)⟩])
           (.seq
            (.reg [⟨some 11, none, .mov (.t 1)⟩,
             ⟨some 12, none, .mov (.t 0)⟩,
             ⟨some 13, none, .mov (.t 5)⟩,
             ⟨some 14, none, .iaddr (.slice 7) (.t 12) (.t 13)⟩,
             ⟨some 15, none, .load 7 true (.t 14)⟩,
             ⟨some 16, none, .calld false (.t 11) [(.t 15)]⟩])
            (.cond (.t 16)
             (.seq
              (.reg [⟨some 17, none, .mov (.t 5)⟩,
               ⟨some 4, none, .mov (.t 17)⟩])
              .ret)
             .skip))))
         (.reg [⟨some 18, none, .bin .add (.t 8) (.c (.int .i64 1))⟩,
          ⟨some 8, none, .mov (.t 18)⟩]))))
/-- slices.IndexFunc[[]tracebook/api.Block,tracebook/api.Block] -/
def c44 : AFn := ⟨2, 19, [.t 4],
 (.seq
  (.reg [⟨some 4, none, .mov (.c (.int .i64 0))⟩])
  (.seq
   (.seq
    (.reg [⟨some 6, none, .mov (.t 0)⟩,
     ⟨some 7, none, .len (.t 6)⟩,
     ⟨some 8, none, .mov (.c (.int .i64 0))⟩])
    (.block 0
     (.loop [0, 1, 7, 8]
      c44b0)))
   (.seq
    (.reg [⟨some 4, none, .mov (.c (.int .i64 (-1)))⟩])
    .ret))), none⟩
def k44 : List (List Nat) := [[0, 1, 7, 8]]
def o44 : List Nat := [1000030, 1000032, 1000040, 1000045, 1000049, 1000051, 1000052, 1000055, 1000056, 1000057, 1000058, 1000059, 1000060, 1000061, 1000062, 1000065, 1000066, 1000069, 1000070, 1000071, 1000072, 3000000]
def c45b0 : AC := (.seq
              (.seq
               (.reg [⟨some 33, none, .mov (.t 8)⟩,
                ⟨some 34, none, .mov (.t 1)⟩,
                ⟨some 35, none, .bin .leq (.t 33) (.t 34)⟩])
               (.cond (.t 35)
                .skip
                (.exit 4)))
              (.block 5
               (.seq
                (.reg [⟨some 36, none, .mov (.t 0)⟩,
                 ⟨some 37, none, .mov (.t 7)⟩,
                 ⟨some 38, none, .mov (.t 7)⟩,
                 ⟨some 39, none, .mov (.t 6)⟩,
                 ⟨some 40, none, .bin .add (.t 38) (.t 39)⟩,
                 ⟨some 41, none, .mov (.t 8)⟩,
                 ⟨some 42, none, .mov (.t 2)⟩,
                 ⟨some 43, none, .callS 52 [(.t 36), (.t 37), (.t 40), (.t 41), (.t 42)]⟩])
                (.seq
                 (.reg [⟨some 44, none, .mov (.t 8)⟩,
                  ⟨some 7, none, .mov (.t 44)⟩])
                 (.reg [⟨some 45, none, .mov (.t 8)⟩,
                  ⟨some 46, none, .mov (.t 6)⟩,
                  ⟨some 47, none, .bin .mul (.c (.int .i64 2)) (.t 46)⟩,
                  ⟨some 48, none, .bin .add (.t 45) (.t 47)⟩,
                  ⟨some 8, none, .mov (.t 48)⟩])))))
def c45r0 : AC := (.seq
            (.seq
             (.reg [⟨some 49, none, .mov (.t 7)⟩,
              ⟨some 50, none, .mov (.t 6)⟩,
              ⟨some 51, none, .bin .add (.t 49) (.t 50)⟩,
              ⟨some 9, none, .mov (.t 51)⟩])
             (.seq
              (.reg [⟨some 52, none, .mov (.t 9)⟩,
               ⟨some 53, none, .mov (.t 1)⟩,
               ⟨some 54, none, .bin .lss (.t 52) (.t 53)⟩])
              (.cond (.t 54)
               (.reg [⟨some 55, none, .mov (.t 0)⟩,
                ⟨some 56, none, .mov (.t 7)⟩,
                ⟨some 57, none, .mov (.t 9)⟩,
                ⟨some 58, none, .mov (.t 1)⟩,
                ⟨some 59, none, .mov (.t 2)⟩,
                ⟨some 60, none, .callS 52 [(.t 55), (.t 56), (.t 57), (.t 58), (.t 59)]⟩])
               .skip)))
            (.reg [⟨some 61, none, .mov (.t 6)⟩,
             ⟨some 62, none, .bin .mul (.t 61) (.c (.int .i64 2))⟩,
             ⟨some 6, none, .mov (.t 62)⟩]))
def c45b1 : AC := (.seq
        (.seq
         (.reg [⟨some 28, none, .mov (.t 6)⟩,
          ⟨some 29, none, .mov (.t 1)⟩,
          ⟨some 30, none, .bin .lss (.t 28) (.t 29)⟩])
         (.cond (.t 30)
          .skip
          (.exit 2)))
        (.block 3
         (.seq
          (.reg [⟨some 31, none, .mov (.t 6)⟩,
           ⟨some 32, none, .bin .mul (.c (.int .i64 2)) (.t 31)⟩,
           ⟨some 7, none, .mov (.c (.int .i64 0))⟩,
           ⟨some 8, none, .mov (.t 32)⟩])
          (.seq
           (.block 4
            (.loop [0, 1, 2, 6, 7, 8]
             c45b0))
           c45r0))))
def c45b2 : AC := (.seq
       (.seq
        (.reg [⟨some 11, none, .mov (.t 8)⟩,
         ⟨some 12, none, .mov (.t 1)⟩,
         ⟨some 13, none, .bin .leq (.t 11) (.t 12)⟩])
        (.cond (.t 13)
         .skip
         (.exit 0)))
       (.block 1
        (.seq
         (.reg [⟨some 14, none, .mov (.t 0)⟩,
          ⟨some 15, none, .mov (.t 7)⟩,
          ⟨some 16, none, .mov (.t 8)⟩,
          ⟨some 17, none, .mov (.t 2)⟩,
          ⟨some 18, none, .callS 51 [(.t 14), (.t 15), (.t 16), (.t 17)]⟩])
         (.seq
          (.reg [⟨some 19, none, .mov (.t 8)⟩,
           ⟨some 7, none, .mov (.t 19)⟩])
          (.reg [⟨some 20, none, .mov (.t 8)⟩,
           ⟨some 21, none, .mov (.t 6)⟩,
           ⟨some 22, none, .bin .add (.t 20) (.t 21)⟩,
           ⟨some 8, none, .mov (.t 22)⟩])))))
def c45r1 : AC := (.seq
     (.reg [⟨some 23, none, .mov (.t 0)⟩,
      ⟨some 24, none, .mov (.t 7)⟩,
      ⟨some 25, none, .mov (.t 1)⟩,
      ⟨some 26, none, .mov (.t 2)⟩,
      ⟨some 27, none, .callS 51 [(.t 23), (.t 24), (.t 25), (.t 26)]⟩])
     (.block 2
      (.loop [0, 1, 2, 6]
       c45b1)))
/-- slices.stableCmpFunc[tracebook/api.Block] -/
def c45 : AFn := ⟨3, 63, [],
 (.seq
  (.reg [⟨some 6, none, .mov (.c (.int .i64 20))⟩])
  (.seq
   (.reg [⟨some 10, none, .mov (.t 6)⟩,
    ⟨some 7, none, .mov (.c (.int .i64 0))⟩,
    ⟨some 8, none, .mov (.t 10)⟩])
   (.seq
    (.block 0
     (.loop [0, 1, 2, 6, 7, 8]
      c45b2))
    c45r1))), none⟩
def k45 : List (List Nat) := [[0, 1, 2, 6, 7, 8], [0, 1, 2, 6], [0, 1, 2, 6, 7, 8]]
def o45 : List Nat := [1000030, 1000032, 1000040, 1000045, 1000049, 1000051, 1000052, 1000055, 1000056, 1000057, 1000058, 1000059, 1000060, 1000061, 1000062, 1000065, 1000066, 1000069, 1000070, 1000071, 1000072, 3000000]
/-- cmp.isNaN[int] -/
def c46 : AFn := ⟨1, 6, [.t 2],
 (.seq
  (.reg [⟨some 2, none, .mov (.c (.bool false))⟩])
  (.seq
   (.reg [⟨some 3, none, .mov (.t 0)⟩,
    ⟨some 4, none, .mov (.t 0)⟩,
    ⟨some 5, none, .bin .neq (.t 3) (.t 4)⟩,
    ⟨some 2, none, .mov (.t 5)⟩])
   .ret)), none⟩
def k46 : List (List Nat) := []
def o46 : List Nat := [1000030, 1000032, 1000040, 1000045, 1000049, 1000051, 1000052, 1000055, 1000056, 1000057, 1000058, 1000059, 1000060, 1000061, 1000062, 1000065, 1000066, 1000069, 1000070, 1000071, 1000072, 3000000]
def c47b0 : AC := (.seq
        (.reg [⟨some 15, none, .bin .lss (.t 14) (.t 13)⟩])
        (.seq
         (.cond (.t 15)
          .skip
          (.exit 0))
         (.seq
          (.block 1
           (.seq
            (.reg [⟨some 16, none, .mov (.t 14)⟩,
             ⟨some 3, none, .mov (.t 16)⟩])
            (.seq
             (.reg [⟨some 17, none, .mov (.t 0)⟩,
              ⟨some 18, none, .mov (.t 3)⟩,
              ⟨some 19, none, .idxS (.t 17) (.t 18)⟩,
              ⟨some 20, none, .call false 53 [(.t 19)]⟩,
              ⟨some 21, none, .un .not (.t 20)⟩])
             (.cond (.t 21)
              (.seq
               (.reg [⟨some 2, none, .mov (.c (.int .i64 3))⟩])
               .ret)
              .skip))))
          (.reg [⟨some 22, none, .bin .add (.t 14) (.c (.int .i64 1))⟩,
           ⟨some 14, none, .mov (.t 22)⟩]))))
/-- tracebook/intern.Name -/
def c47 : AFn := ⟨1, 23, [.t 2],
 (.seq
  (.reg [⟨some 2, none, .mov (.c (.int .i64 0))⟩])
  (.seq
   (.seq
    (.reg [⟨some 4, none, .mov (.t 0)⟩,
     ⟨some 5, none, .lenS (.t 4)⟩,
     ⟨some 6, none, .bin .lss (.t 5) (.c (.int .i64 1))⟩,
     ⟨some 7, none, .mov (.t 6)⟩,
     ⟨some 8, some (7, false), .mov (.t 0)⟩,
     ⟨some 9, some (7, false), .lenS (.t 8)⟩,
     ⟨some 10, some (7, false), .bin .gtr (.t 9) (.c (.int .i64 40))⟩,
     ⟨some 11, none, .pick (.t 7) (.c (.bool true)) (.t 10)⟩])
    (.cond (.t 11)
     (.seq
      (.reg [⟨some 2, none, .mov (.c (.int .i64 3))⟩])
      .ret)
     .skip))
   (.seq
    (.seq
     (.reg [⟨some 12, none, .mov (.t 0)⟩,
      ⟨some 13, none, .lenS (.t 12)⟩,
      ⟨some 14, none, .mov (.c (.int .i64 0))⟩])
     (.block 0
      (.loop [0, 13, 14]
       c47b0)))
    (.seq
     (.reg [⟨some 2, none, .mov (.c (.int .i64 0))⟩])
     .ret)))), none⟩
def k47 : List (List Nat) := [[0, 13, 14]]
def o47 : List Nat := [1000030, 1000032, 1000040, 1000045, 1000049, 1000051, 1000052, 1000055, 1000056, 1000057, 1000058, 1000059, 1000060, 1000061, 1000062, 1000065, 1000066, 1000069, 1000070, 1000071, 1000072, 3000000]
def c48b0 : AC := (.seq
        (.seq
         (.reg [⟨some 12, none, .mov (.t 3)⟩,
          ⟨some 13, none, .mov (.t 0)⟩,
          ⟨some 14, none, .lenS (.t 13)⟩,
          ⟨some 15, none, .bin .lss (.t 12) (.t 14)⟩])
         (.cond (.t 15)
          .skip
          (.exit 0)))
        (.seq
         (.block 1
          (.seq
           (.reg [⟨some 18, none, .mov (.t 0)⟩,
            ⟨some 19, none, .mov (.t 3)⟩,
            ⟨some 20, none, .idxS (.t 18) (.t 19)⟩,
            ⟨some 21, none, .call false 54 [(.t 20)]⟩,
            ⟨some 22, none, .un .not (.t 21)⟩])
           (.cond (.t 22)
            (.seq
             (.reg [⟨some 2, none, .mov (.c (.int .i64 3))⟩])
             .ret)
            .skip)))
         (.reg [⟨some 16, none, .mov (.t 3)⟩,
          ⟨some 17, none, .bin .add (.t 16) (.c (.int .i64 1))⟩,
          ⟨some 3, none, .mov (.t 17)⟩])))
/-- tracebook/tracebookref06.Name -/
def c48 : AFn := ⟨1, 23, [.t 2],
 (.seq
  (.reg [⟨some 2, none, .mov (.c (.int .i64 0))⟩])
  (.seq
   (.seq
    (.reg [⟨some 4, none, .mov (.t 0)⟩,
     ⟨some 5, none, .lenS (.t 4)⟩,
     ⟨some 6, none, .bin .lss (.t 5) (.c (.int .i64 1))⟩,
     ⟨some 7, none, .mov (.t 6)⟩,
     ⟨some 8, some (7, false), .mov (.t 0)⟩,
     ⟨some 9, some (7, false), .lenS (.t 8)⟩,
     ⟨some 10, some (7, false), .bin .gtr (.t 9) (.c (.int .i64 40))⟩,
     ⟨some 11, none, .pick (.t 7) (.c (.bool true)) (.t 10)⟩])
    (.cond (.t 11)
     (.seq
      (.reg [⟨some 2, none, .mov (.c (.int .i64 3))⟩])
      .ret)
     .skip))
   (.seq
    (.seq
     (.reg [⟨some 3, none, .mov (.c (.int .i64 0))⟩])
     (.block 0
      (.loop [0, 3]
       c48b0)))
    (.seq
     (.reg [⟨some 2, none, .mov (.c (.int .i64 0))⟩])
     .ret)))), none⟩
def k48 : List (List Nat) := [[0, 3]]
def o48 : List Nat := [1000030, 1000032, 1000040, 1000045, 1000049, 1000051, 1000052, 1000055, 1000056, 1000057, 1000058, 1000059, 1000060, 1000061, 1000062, 1000065, 1000066, 1000069, 1000070, 1000071, 1000072, 3000000]
def c49b0 : AC := (.block 1
      (.seq
       (.reg [⟨some 21, none, .mov (.t 2)⟩,
        ⟨some 22, none, .mov (.t 1)⟩,
        ⟨some 23, none, .bin .sub (.t 21) (.t 22)⟩,
        ⟨some 12, none, .mov (.t 23)⟩])
       (.seq
        (.seq
         (.reg [⟨some 24, none, .mov (.t 12)⟩,
          ⟨some 25, none, .bin .leq (.t 24) (.c (.int .i64 12))⟩])
         (.cond (.t 25)
          (.seq
           (.reg [⟨some 26, none, .mov (.t 0)⟩,
            ⟨some 27, none, .mov (.t 1)⟩,
            ⟨some 28, none, .mov (.t 2)⟩,
            ⟨some 29, none, .mov (.t 4)⟩,
            ⟨some 30, none, .callS 55 [(.t 26), (.t 27), (.t 28), (.t 29)]⟩])
           .ret)
          .skip))
        (.seq
         (.seq
          (.reg [⟨some 31, none, .mov (.t 3)⟩,
           ⟨some 32, none, .bin .eql (.t 31) (.c (.int .i64 0))⟩])
          (.cond (.t 32)
           (.seq
            (.reg [⟨some 33, none, .mov (.t 0)⟩,
             ⟨some 34, none, .mov (.t 1)⟩,
             ⟨some 35, none, .mov (.t 2)⟩,
             ⟨some 36, none, .mov (.t 4)⟩,
             ⟨some 37, none, .callS 56 [(.t 33), (.t 34), (.t 35), (.t 36)]⟩])
            .ret)
           .skip))
         (.seq
          (.seq
           (.reg [⟨some 38, none, .mov (.t 10)⟩,
            ⟨some 39, none, .un .not (.t 38)⟩])
           (.cond (.t 39)
            (.seq
             (.reg [⟨some 40, none, .mov (.t 0)⟩,
              ⟨some 41, none, .mov (.t 1)⟩,
              ⟨some 42, none, .mov (.t 2)⟩,
              ⟨some 43, none, .mov (.t 4)⟩,
              ⟨some 44, none, .callS 57 [(.t 40), (.t 41), (.t 42), (.t 43)]⟩])
             (.reg [⟨some 45, none, .mov (.t 3)⟩,
              ⟨some 46, none, .bin .sub (.t 45) (.c (.int .i64 1))⟩,
              ⟨some 3, none, .mov (.t 46)⟩]))
            .skip))
          (.seq
           (.reg [⟨some 48, none, .mov (.t 0)⟩,
            ⟨some 49, none, .mov (.t 1)⟩,
            ⟨some 50, none, .mov (.t 2)⟩,
            ⟨some 51, none, .mov (.t 4)⟩,
            ⟨some 52, none, .callS 58 [(.t 48), (.t 49), (.t 50), (.t 51)]⟩,
            ⟨some 47, none, .mov (.t 52)⟩,
            ⟨some 53, none, .ext (.t 47) 0⟩,
            ⟨some 54, none, .ext (.t 47) 1⟩,
            ⟨some 13, none, .mov (.t 53)⟩,
            ⟨some 14, none, .mov (.t 54)⟩])
           (.seq
            (.seq
             (.reg [⟨some 55, none, .mov (.t 14)⟩,
              ⟨some 56, none, .bin .eql (.t 55) (.c (.int .i64 2))⟩])
             (.cond (.t 56)
              (.seq
               (.reg [⟨some 57, none, .mov (.t 0)⟩,
                ⟨some 58, none, .mov (.t 1)⟩,
                ⟨some 59, none, .mov (.t 2)⟩,
                ⟨some 60, none, .mov (.t 4)⟩,
                ⟨some 61, none, .callS 59 [(.t 57), (.t 58), (.t 59), (.t 60)]⟩])
               (.seq
                (.reg [⟨some 62, none, .mov (.t 2)⟩,
                 ⟨some 63, none, .bin .sub (.t 62) (.c (.int .i64 1))⟩,
                 ⟨some 64, none, .mov (.t 13)⟩,
                 ⟨some 65, none, .mov (.t 1)⟩,
                 ⟨some 66, none, .bin .sub (.t 64) (.t 65)⟩,
                 ⟨some 67, none, .bin .sub (.t 63) (.t 66)⟩,
                 ⟨some 13, none, .mov (.t 67)⟩])
                (.reg [⟨some 14, none, .mov (.c (.int .i64 1))⟩])))
              .skip))
            (.seq
             (.seq
              (.reg [⟨some 68, none, .mov (.t 10)⟩,
               ⟨some 69, none, .mov (.t 68)⟩,
               ⟨some 70, some (69, true), .mov (.t 11)⟩,
               ⟨some 71, none, .pick (.t 69) (.t 70) (.c (.bool false))⟩,
               ⟨some 72, none, .mov (.t 71)⟩,
               ⟨some 73, some (72, true), .mov (.t 14)⟩,
               ⟨some 74, some (72, true), .bin .eql (.t 73) (.c (.int .i64 1))⟩,
               ⟨some 75, none, .pick (.t 72) (.t 74) (.c (.bool false))⟩])
              (.cond (.t 75)
               (.seq
                (.reg [⟨some 76, none, .mov (.t 0)⟩,
                 ⟨some 77, none, .mov (.t 1)⟩,
                 ⟨some 78, none, .mov (.t 2)⟩,
                 ⟨some 79, none, .mov (.t 4)⟩,
                 ⟨some 80, none, .callS 60 [(.t 76), (.t 77), (.t 78), (.t 79)]⟩])
                (.cond (.t 80)
                 .ret
                 .skip))
               .skip))
             (.seq
              (.seq
               (.reg [⟨some 81, none, .mov (.t 1)⟩,
                ⟨some 82, none, .bin .gtr (.t 81) (.c (.int .i64 0))⟩,
                ⟨some 83, none, .mov (.t 82)⟩,
                ⟨some 84, some (83, true), .mov (.t 4)⟩,
                ⟨some 85, some (83, true), .mov (.t 0)⟩,
                ⟨some 86, some (83, true), .mov (.t 1)⟩,
                ⟨some 87, some (83, true), .bin .sub (.t 86) (.c (.int .i64 1))⟩,
                ⟨some 88, some (83, true), .iaddr (.slice 2) (.t 85) (.t 87)⟩,
                ⟨some 89, some (83, true), .load 2 true (.t 88)⟩,
                ⟨some 90, some (83, true), .mov (.t 0)⟩,
                ⟨some 91, some (83, true), .mov (.t 13)⟩,
                ⟨some 92, some (83, true), .iaddr (.slice 2) (.t 90) (.t 91)⟩,
                ⟨some 93, some (83, true), .load 2 true (.t 92)⟩,
                ⟨some 94, some (83, true), .calld false (.t 84) [(.t 89), (.t 93)]⟩,
                ⟨some 95, some (83, true), .bin .lss (.t 94) (.c (.int .i64 0))⟩,
                ⟨some 96, some (83, true), .un .not (.t 95)⟩,
                ⟨some 97, none, .pick (.t 83) (.t 96) (.c (.bool false))⟩])
               (.cond (.t 97)
                (.seq
                 (.reg [⟨some 98, none, .mov (.t 0)⟩,
                  ⟨some 99, none, .mov (.t 1)⟩,
                  ⟨some 100, none, .mov (.t 2)⟩,
                  ⟨some 101, none, .mov (.t 13)⟩,
                  ⟨some 102, none, .mov (.t 4)⟩,
                  ⟨some 103, none, .callS 61 [(.t 98), (.t 99), (.t 100), (.t 101), (.t 102)]⟩,
                  ⟨some 15, none, .mov (.t 103)⟩])
                 (.seq
                  (.reg [⟨some 104, none, .mov (.t 15)⟩,
                   ⟨some 1, none, .mov (.t 104)⟩])
                  (.exit 1)))
                .skip))
              (.seq
               (.reg [⟨some 106, none, .mov (.t 0)⟩,
                ⟨some 107, none, .mov (.t 1)⟩,
                ⟨some 108, none, .mov (.t 2)⟩,
                ⟨some 109, none, .mov (.t 13)⟩,
                ⟨some 110, none, .mov (.t 4)⟩,
                ⟨some 111, none, .callS 62 [(.t 106), (.t 107), (.t 108), (.t 109), (.t 110)]⟩,
                ⟨some 105, none, .mov (.t 111)⟩,
                ⟨some 112, none, .ext (.t 105) 0⟩,
                ⟨some 113, none, .ext (.t 105) 1⟩,
                ⟨some 16, none, .mov (.t 112)⟩,
                ⟨some 17, none, .mov (.t 113)⟩])
               (.seq
                (.reg [⟨some 114, none, .mov (.t 17)⟩,
                 ⟨some 11, none, .mov (.t 114)⟩])
                (.seq
                 (.reg [⟨some 115, none, .mov (.t 16)⟩,
                  ⟨some 116, none, .mov (.t 1)⟩,
                  ⟨some 117, none, .bin .sub (.t 115) (.t 116)⟩,
                  ⟨some 118, none, .mov (.t 2)⟩,
                  ⟨some 119, none, .mov (.t 16)⟩,
                  ⟨some 120, none, .bin .sub (.t 118) (.t 119)⟩,
                  ⟨some 18, none, .mov (.t 117)⟩,
                  ⟨some 19, none, .mov (.t 120)⟩])
                 (.seq
                  (.reg [⟨some 121, none, .mov (.t 12)⟩,
                   ⟨some 122, none, .bin .quo (.t 121) (.c (.int .i64 8))⟩,
                   ⟨some 20, none, .mov (.t 122)⟩])
                  (.seq
                   (.reg [⟨some 123, none, .mov (.t 18)⟩,
                    ⟨some 124, none, .mov (.t 19)⟩,
                    ⟨some 125, none, .bin .lss (.t 123) (.t 124)⟩])
                   (.cond (.t 125)
                    (.seq
                     (.reg [⟨some 126, none, .mov (.t 18)⟩,
                      ⟨some 127, none, .mov (.t 20)⟩,
                      ⟨some 128, none, .bin .geq (.t 126) (.t 127)⟩,
                      ⟨some 10, none, .mov (.t 128)⟩])
                     (.seq
                      (.reg [⟨some 129, none, .mov (.t 0)⟩,
                       ⟨some 130, none, .mov (.t 1)⟩,
                       ⟨some 131, none, .mov (.t 16)⟩,
                       ⟨some 132, none, .mov (.t 3)⟩,
                       ⟨some 133, none, .mov (.t 4)⟩,
                       ⟨some 134, none, .callS 49 [(.t 129), (.t 130), (.t 131), (.t 132), (.t 133)]⟩])
                      (.reg [⟨some 135, none, .mov (.t 16)⟩,
                       ⟨some 136, none, .bin .add (.t 135) (.c (.int .i64 1))⟩,
                       ⟨some 1, none, .mov (.t 136)⟩])))
                    (.seq
                     (.reg [⟨some 137, none, .mov (.t 19)⟩,
                      ⟨some 138, none, .mov (.t 20)⟩,
                      ⟨some 139, none, .bin .geq (.t 137) (.t 138)⟩,
                      ⟨some 10, none, .mov (.t 139)⟩])
                     (.seq
                      (.reg [⟨some 140, none, .mov (.t 0)⟩,
                       ⟨some 141, none, .mov (.t 16)⟩,
                       ⟨some 142, none, .bin .add (.t 141) (.c (.int .i64 1))⟩,
                       ⟨some 143, none, .mov (.t 2)⟩,
                       ⟨some 144, none, .mov (.t 3)⟩,
                       ⟨some 145, none, .mov (.t 4)⟩,
                       ⟨some 146, none, .callS 49 [(.t 140), (.t 142), (.t 143), (.t 144), (.t 145)]⟩])
                      (.reg [⟨some 147, none, .mov (.t 16)⟩,
                       ⟨some 2, none, .mov (.t 147)⟩]))))))))))))))))))
/-- slices.pdqsortCmpFunc[tracebook/memory.resize] -/
def c49 : AFn := ⟨5, 148, [],
 (.seq
  (.reg [⟨some 10, none, .mov (.c (.bool true))⟩])
  (.seq
   (.reg [⟨some 11, none, .mov (.c (.bool true))⟩])
   (.block 0
    (.loop [0, 1, 2, 3, 4, 10, 11]
     c49b0)))), none⟩
def k49 : List (List Nat) := [[0, 1, 2, 3, 4, 10, 11]]
def o49 : List Nat := [1000030, 1000032, 1000040, 1000045, 1000049, 1000051, 1000052, 1000055, 1000056, 1000057, 1000058, 1000059, 1000060, 1000061, 1000062, 1000065, 1000066, 1000069, 1000070, 1000071, 1000072, 3000000]
/-- math/bits.Len -/
def c50 : AFn := ⟨1, 8, [.t 2],
 (.seq
  (.reg [⟨some 2, none, .mov (.c (.int .i64 0))⟩])
  (.seq
   (.cond (.c (.bool false))
    (.seq
     (.reg [⟨some 3, none, .mov (.t 0)⟩,
      ⟨some 4, none, .conv (.int .u32) (.t 3)⟩,
      ⟨some 5, none, .call false 63 [(.t 4)]⟩,
      ⟨some 2, none, .mov (.t 5)⟩])
     .ret)
    .skip)
   (.seq
    (.reg [⟨some 6, none, .mov (.t 0)⟩,
     ⟨some 7, none, .call false 64 [(.t 6)]⟩,
     ⟨some 2, none, .mov (.t 7)⟩])
    .ret))), none⟩
def k50 : List (List Nat) := []
def o50 : List Nat := [1000030, 1000032, 1000040, 1000045, 1000049, 1000051, 1000052, 1000055, 1000056, 1000057, 1000058, 1000059, 1000060, 1000061, 1000062, 1000065, 1000066, 1000069, 1000070, 1000071, 1000072, 3000000]
def c51b0 : AC := (.seq
           (.seq
            (.reg [⟨some 18, none, .mov (.t 9)⟩,
             ⟨some 19, none, .mov (.t 1)⟩,
             ⟨some 20, none, .bin .gtr (.t 18) (.t 19)⟩,
             ⟨some 21, none, .mov (.t 20)⟩,
             ⟨some 22, some (21, true), .mov (.t 3)⟩,
             ⟨some 23, some (21, true), .mov (.t 0)⟩,
             ⟨some 24, some (21, true), .mov (.t 9)⟩,
             ⟨some 25, some (21, true), .iaddr (.slice 7) (.t 23) (.t 24)⟩,
             ⟨some 26, some (21, true), .load 7 true (.t 25)⟩,
             ⟨some 27, some (21, true), .mov (.t 0)⟩,
             ⟨some 28, some (21, true), .mov (.t 9)⟩,
             ⟨some 29, some (21, true), .bin .sub (.t 28) (.c (.int .i64 1))⟩,
             ⟨some 30, some (21, true), .iaddr (.slice 7) (.t 27) (.t 29)⟩,
             ⟨some 31, some (21, true), .load 7 true (.t 30)⟩,
             ⟨some 32, some (21, true), .calld false (.t 22) [(.t 26), (.t 31)]⟩,
             ⟨some 33, some (21, true), .bin .lss (.t 32) (.c (.int .i64 0))⟩,
             ⟨some 34, none, .pick (.t 21) (.t 33) (.c (.bool false))⟩])
            (.cond (.t 34)
             .skip
             (.exit 2)))
           (.seq
            (.block 3
             (.reg [⟨some 37, none, .mov (.t 0)⟩,
              ⟨some 38, none, .mov (.t 9)⟩,
              ⟨some 39, none, .mov (.t 0)⟩,
              ⟨some 40, none, .mov (.t 9)⟩,
              ⟨some 41, none, .bin .sub (.t 40) (.c (.int .i64 1))⟩,
              ⟨some 42, none, .mov (.t 0)⟩,
              ⟨some 43, none, .mov (.t 9)⟩,
              ⟨some 44, none, .bin .sub (.t 43) (.c (.int .i64 1))⟩,
              ⟨some 45, none, .iaddr (.slice 7) (.t 42) (.t 44)⟩,
              ⟨some 46, none, .load 7 true (.t 45)⟩,
              ⟨some 47, none, .mov (.t 0)⟩,
              ⟨some 48, none, .mov (.t 9)⟩,
              ⟨some 49, none, .iaddr (.slice 7) (.t 47) (.t 48)⟩,
              ⟨some 50, none, .load 7 true (.t 49)⟩,
              ⟨some 51, none, .iaddr (.slice 7) (.t 37) (.t 38)⟩,
              ⟨none, none, .store 7 (.t 51) (.t 46)⟩,
              ⟨some 52, none, .iaddr (.slice 7) (.t 39) (.t 41)⟩,
              ⟨none, none, .store 7 (.t 52) (.t 50)⟩]))
            (.reg [⟨some 35, none, .mov (.t 9)⟩,
             ⟨some 36, none, .bin .sub (.t 35) (.c (.int .i64 1))⟩,
             ⟨some 9, none, .mov (.t 36)⟩])))
def c51b1 : AC := (.seq
     (.seq
      (.reg [⟨some 12, none, .mov (.t 8)⟩,
       ⟨some 13, none, .mov (.t 2)⟩,
       ⟨some 14, none, .bin .lss (.t 12) (.t 13)⟩])
      (.cond (.t 14)
       .skip
       (.exit 0)))
     (.seq
      (.block 1
       (.seq
        (.reg [⟨some 17, none, .mov (.t 8)⟩,
         ⟨some 9, none, .mov (.t 17)⟩])
        (.block 2
         (.loop [0, 1, 2, 3, 8, 9]
          c51b0))))
      (.reg [⟨some 15, none, .mov (.t 8)⟩,
       ⟨some 16, none, .bin .add (.t 15) (.c (.int .i64 1))⟩,
       ⟨some 8, none, .mov (.t 16)⟩])))
/-- slices.insertionSortCmpFunc[tracebook/api.Block] -/
def c51 : AFn := ⟨4, 53, [],
 (.seq
  (.reg [⟨some 10, none, .mov (.t 1)⟩,
   ⟨some 11, none, .bin .add (.t 10) (.c (.int .i64 1))⟩,
   ⟨some 8, none, .mov (.t 11)⟩])
  (.block 0
   (.loop [0, 1, 2, 3, 8]
    c51b1))), none⟩
def k51 : List (List Nat) := [[0, 1, 2, 3, 8], [0, 1, 2, 3, 8, 9]]
def o51 : List Nat := [1000030, 1000032, 1000040, 1000045, 1000049, 1000051, 1000052, 1000055, 1000056, 1000057, 1000058, 1000059, 1000060, 1000061, 1000062, 1000065, 1000066, 1000069, 1000070, 1000071, 1000072, 3000000]
def c52b0 : AC := (.seq
            (.seq
             (.reg [⟨some 149, none, .mov (.t 20)⟩,
              ⟨some 150, none, .mov (.t 21)⟩,
              ⟨some 151, none, .bin .lss (.t 149) (.t 150)⟩])
             (.cond (.t 151)
              .skip
              (.exit 8)))
            (.block 9
             (.seq
              (.reg [⟨some 152, none, .mov (.t 20)⟩,
               ⟨some 153, none, .mov (.t 21)⟩,
               ⟨some 154, none, .bin .add (.t 152) (.t 153)⟩,
               ⟨some 155, none, .conv (.int .u64) (.t 154)⟩,
               ⟨some 156, none, .bin .shr (.t 155) (.c (.int .u64 1))⟩,
               ⟨some 157, none, .conv (.int .i64) (.t 156)⟩,
               ⟨some 23, none, .mov (.t 157)⟩])
              (.seq
               (.reg [⟨some 158, none, .mov (.t 4)⟩,
                ⟨some 159, none, .mov (.t 0)⟩,
                ⟨some 160, none, .mov (.t 22)⟩,
                ⟨some 161, none, .mov (.t 23)⟩,
                ⟨some 162, none, .bin .sub (.t 160) (.t 161)⟩,
                ⟨some 163, none, .iaddr (.slice 7) (.t 159) (.t 162)⟩,
                ⟨some 164, none, .load 7 true (.t 163)⟩,
                ⟨some 165, none, .mov (.t 0)⟩,
                ⟨some 166, none, .mov (.t 23)⟩,
                ⟨some 167, none, .iaddr (.slice 7) (.t 165) (.t 166)⟩,
                ⟨some 168, none, .load 7 true (.t 167)⟩,
                ⟨some 169, none, .calld false (.t 158) [(.t 164), (.t 168)]⟩,
                ⟨some 170, none, .bin .lss (.t 169) (.c (.int .i64 0))⟩,
                ⟨some 171, none, .un .not (.t 170)⟩])
               (.cond (.t 171)
                (.reg [⟨some 172, none, .mov (.t 23)⟩,
                 ⟨some 173, none, .bin .add (.t 172) (.c (.int .i64 1))⟩,
                 ⟨some 20, none, .mov (.t 173)⟩])
                (.reg [⟨some 174, none, .mov (.t 23)⟩,
                 ⟨some 21, none, .mov (.t 174)⟩]))))))
def c52b1 : AC := (.seq
             (.seq
              (.reg [⟨some 108, none, .mov (.t 17)⟩,
               ⟨some 109, none, .mov (.t 14)⟩,
               ⟨some 110, none, .bin .gtr (.t 108) (.t 109)⟩])
              (.cond (.t 110)
               .skip
               (.exit 6)))
             (.seq
              (.block 7
               (.reg [⟨some 113, none, .mov (.t 0)⟩,
                ⟨some 114, none, .mov (.t 17)⟩,
                ⟨some 115, none, .mov (.t 0)⟩,
                ⟨some 116, none, .mov (.t 17)⟩,
                ⟨some 117, none, .bin .sub (.t 116) (.c (.int .i64 1))⟩,
                ⟨some 118, none, .mov (.t 0)⟩,
                ⟨some 119, none, .mov (.t 17)⟩,
                ⟨some 120, none, .bin .sub (.t 119) (.c (.int .i64 1))⟩,
                ⟨some 121, none, .iaddr (.slice 7) (.t 118) (.t 120)⟩,
                ⟨some 122, none, .load 7 true (.t 121)⟩,
                ⟨some 123, none, .mov (.t 0)⟩,
                ⟨some 124, none, .mov (.t 17)⟩,
                ⟨some 125, none, .iaddr (.slice 7) (.t 123) (.t 124)⟩,
                ⟨some 126, none, .load 7 true (.t 125)⟩,
                ⟨some 127, none, .iaddr (.slice 7) (.t 113) (.t 114)⟩,
                ⟨none, none, .store 7 (.t 127) (.t 122)⟩,
                ⟨some 128, none, .iaddr (.slice 7) (.t 115) (.t 117)⟩,
                ⟨none, none, .store 7 (.t 128) (.t 126)⟩]))
              (.reg [⟨some 111, none, .mov (.t 17)⟩,
               ⟨some 112, none, .bin .sub (.t 111) (.c (.int .i64 1))⟩,
               ⟨some 17, none, .mov (.t 112)⟩])))
def c52b2 : AC := (.seq
           (.seq
            (.reg [⟨some 83, none, .mov (.t 14)⟩,
             ⟨some 84, none, .mov (.t 15)⟩,
             ⟨some 85, none, .bin .lss (.t 83) (.t 84)⟩])
            (.cond (.t 85)
             .skip
             (.exit 4)))
           (.block 5
            (.seq
             (.reg [⟨some 86, none, .mov (.t 14)⟩,
              ⟨some 87, none, .mov (.t 15)⟩,
              ⟨some 88, none, .bin .add (.t 86) (.t 87)⟩,
              ⟨some 89, none, .conv (.int .u64) (.t 88)⟩,
              ⟨some 90, none, .bin .shr (.t 89) (.c (.int .u64 1))⟩,
              ⟨some 91, none, .conv (.int .i64) (.t 90)⟩,
              ⟨some 16, none, .mov (.t 91)⟩])
             (.seq
              (.reg [⟨some 92, none, .mov (.t 4)⟩,
               ⟨some 93, none, .mov (.t 0)⟩,
               ⟨some 94, none, .mov (.t 2)⟩,
               ⟨some 95, none, .iaddr (.slice 7) (.t 93) (.t 94)⟩,
               ⟨some 96, none, .load 7 true (.t 95)⟩,
               ⟨some 97, none, .mov (.t 0)⟩,
               ⟨some 98, none, .mov (.t 16)⟩,
               ⟨some 99, none, .iaddr (.slice 7) (.t 97) (.t 98)⟩,
               ⟨some 100, none, .load 7 true (.t 99)⟩,
               ⟨some 101, none, .calld false (.t 92) [(.t 96), (.t 100)]⟩,
               ⟨some 102, none, .bin .lss (.t 101) (.c (.int .i64 0))⟩,
               ⟨some 103, none, .un .not (.t 102)⟩])
              (.cond (.t 103)
               (.reg [⟨some 104, none, .mov (.t 16)⟩,
                ⟨some 105, none, .bin .add (.t 104) (.c (.int .i64 1))⟩,
                ⟨some 14, none, .mov (.t 105)⟩])
               (.reg [⟨some 106, none, .mov (.t 16)⟩,
                ⟨some 15, none, .mov (.t 106)⟩]))))))
def c52b3 : AC := (.seq
            (.seq
             (.reg [⟨some 55, none, .mov (.t 13)⟩,
              ⟨some 56, none, .mov (.t 10)⟩,
              ⟨some 57, none, .bin .sub (.t 56) (.c (.int .i64 1))⟩,
              ⟨some 58, none, .bin .lss (.t 55) (.t 57)⟩])
             (.cond (.t 58)
              .skip
              (.exit 2)))
            (.seq
             (.block 3
              (.reg [⟨some 61, none, .mov (.t 0)⟩,
               ⟨some 62, none, .mov (.t 13)⟩,
               ⟨some 63, none, .mov (.t 0)⟩,
               ⟨some 64, none, .mov (.t 13)⟩,
               ⟨some 65, none, .bin .add (.t 64) (.c (.int .i64 1))⟩,
               ⟨some 66, none, .mov (.t 0)⟩,
               ⟨some 67, none, .mov (.t 13)⟩,
               ⟨some 68, none, .bin .add (.t 67) (.c (.int .i64 1))⟩,
               ⟨some 69, none, .iaddr (.slice 7) (.t 66) (.t 68)⟩,
               ⟨some 70, none, .load 7 true (.t 69)⟩,
               ⟨some 71, none, .mov (.t 0)⟩,
               ⟨some 72, none, .mov (.t 13)⟩,
               ⟨some 73, none, .iaddr (.slice 7) (.t 71) (.t 72)⟩,
               ⟨some 74, none, .load 7 true (.t 73)⟩,
               ⟨some 75, none, .iaddr (.slice 7) (.t 61) (.t 62)⟩,
               ⟨none, none, .store 7 (.t 75) (.t 70)⟩,
               ⟨some 76, none, .iaddr (.slice 7) (.t 63) (.t 65)⟩,
               ⟨none, none, .store 7 (.t 76) (.t 74)⟩]))
             (.reg [⟨some 59, none, .mov (.t 13)⟩,
              ⟨some 60, none, .bin .add (.t 59) (.c (.int .i64 1))⟩,
              ⟨some 13, none, .mov (.t 60)⟩])))
def c52b4 : AC := (.seq
          (.seq
           (.reg [⟨some 31, none, .mov (.t 10)⟩,
            ⟨some 32, none, .mov (.t 11)⟩,
            ⟨some 33, none, .bin .lss (.t 31) (.t 32)⟩])
           (.cond (.t 33)
            .skip
            (.exit 0)))
          (.block 1
           (.seq
            (.reg [⟨some 34, none, .mov (.t 10)⟩,
             ⟨some 35, none, .mov (.t 11)⟩,
             ⟨some 36, none, .bin .add (.t 34) (.t 35)⟩,
             ⟨some 37, none, .conv (.int .u64) (.t 36)⟩,
             ⟨some 38, none, .bin .shr (.t 37) (.c (.int .u64 1))⟩,
             ⟨some 39, none, .conv (.int .i64) (.t 38)⟩,
             ⟨some 12, none, .mov (.t 39)⟩])
            (.seq
             (.reg [⟨some 40, none, .mov (.t 4)⟩,
              ⟨some 41, none, .mov (.t 0)⟩,
              ⟨some 42, none, .mov (.t 12)⟩,
              ⟨some 43, none, .iaddr (.slice 7) (.t 41) (.t 42)⟩,
              ⟨some 44, none, .load 7 true (.t 43)⟩,
              ⟨some 45, none, .mov (.t 0)⟩,
              ⟨some 46, none, .mov (.t 1)⟩,
              ⟨some 47, none, .iaddr (.slice 7) (.t 45) (.t 46)⟩,
              ⟨some 48, none, .load 7 true (.t 47)⟩,
              ⟨some 49, none, .calld false (.t 40) [(.t 44), (.t 48)]⟩,
              ⟨some 50, none, .bin .lss (.t 49) (.c (.int .i64 0))⟩])
             (.cond (.t 50)
              (.reg [⟨some 51, none, .mov (.t 12)⟩,
               ⟨some 52, none, .bin .add (.t 51) (.c (.int .i64 1))⟩,
               ⟨some 10, none, .mov (.t 52)⟩])
              (.reg [⟨some 53, none, .mov (.t 12)⟩,
               ⟨some 11, none, .mov (.t 53)⟩]))))))
def c52r0 : AC := (.seq
          (.reg [⟨some 175, none, .mov (.t 19)⟩,
           ⟨some 176, none, .mov (.t 20)⟩,
           ⟨some 177, none, .bin .sub (.t 175) (.t 176)⟩,
           ⟨some 24, none, .mov (.t 177)⟩])
          (.seq
           (.seq
            (.reg [⟨some 178, none, .mov (.t 20)⟩,
             ⟨some 179, none, .mov (.t 2)⟩,
             ⟨some 180, none, .bin .lss (.t 178) (.t 179)⟩,
             ⟨some 181, none, .mov (.t 180)⟩,
             ⟨some 182, some (181, true), .mov (.t 2)⟩,
             ⟨some 183, some (181, true), .mov (.t 24)⟩,
             ⟨some 184, some (181, true), .bin .lss (.t 182) (.t 183)⟩,
             ⟨some 185, none, .pick (.t 181) (.t 184) (.c (.bool false))⟩])
            (.cond (.t 185)
             (.reg [⟨some 186, none, .mov (.t 0)⟩,
              ⟨some 187, none, .mov (.t 20)⟩,
              ⟨some 188, none, .mov (.t 2)⟩,
              ⟨some 189, none, .mov (.t 24)⟩,
              ⟨some 190, none, .mov (.t 4)⟩,
              ⟨some 191, none, .callS 65 [(.t 186), (.t 187), (.t 188), (.t 189), (.t 190)]⟩])
             .skip))
           (.seq
            (.seq
             (.reg [⟨some 192, none, .mov (.t 1)⟩,
              ⟨some 193, none, .mov (.t 20)⟩,
              ⟨some 194, none, .bin .lss (.t 192) (.t 193)⟩,
              ⟨some 195, none, .mov (.t 194)⟩,
              ⟨some 196, some (195, true), .mov (.t 20)⟩,
              ⟨some 197, some (195, true), .mov (.t 18)⟩,
              ⟨some 198, some (195, true), .bin .lss (.t 196) (.t 197)⟩,
              ⟨some 199, none, .pick (.t 195) (.t 198) (.c (.bool false))⟩])
             (.cond (.t 199)
              (.reg [⟨some 200, none, .mov (.t 0)⟩,
               ⟨some 201, none, .mov (.t 1)⟩,
               ⟨some 202, none, .mov (.t 20)⟩,
               ⟨some 203, none, .mov (.t 18)⟩,
               ⟨some 204, none, .mov (.t 4)⟩,
               ⟨some 205, none, .callS 52 [(.t 200), (.t 201), (.t 202), (.t 203), (.t 204)]⟩])
              .skip))
            (.seq
             (.reg [⟨some 206, none, .mov (.t 18)⟩,
              ⟨some 207, none, .mov (.t 24)⟩,
              ⟨some 208, none, .bin .lss (.t 206) (.t 207)⟩,
              ⟨some 209, none, .mov (.t 208)⟩,
              ⟨some 210, some (209, true), .mov (.t 24)⟩,
              ⟨some 211, some (209, true), .mov (.t 3)⟩,
              ⟨some 212, some (209, true), .bin .lss (.t 210) (.t 211)⟩,
              ⟨some 213, none, .pick (.t 209) (.t 212) (.c (.bool false))⟩])
             (.cond (.t 213)
              (.reg [⟨some 214, none, .mov (.t 0)⟩,
               ⟨some 215, none, .mov (.t 18)⟩,
               ⟨some 216, none, .mov (.t 24)⟩,
               ⟨some 217, none, .mov (.t 3)⟩,
               ⟨some 218, none, .mov (.t 4)⟩,
               ⟨some 219, none, .callS 52 [(.t 214), (.t 215), (.t 216), (.t 217), (.t 218)]⟩])
              .skip)))))
def c52r1 : AC := (.seq
         (.seq
          (.reg [⟨some 107, none, .mov (.t 2)⟩,
           ⟨some 17, none, .mov (.t 107)⟩])
          (.block 6
           (.loop [0, 14, 17]
            c52b1)))
         .ret)
def c52r2 : AC := (.seq
    (.reg [⟨some 129, none, .mov (.t 1)⟩,
     ⟨some 130, none, .mov (.t 3)⟩,
     ⟨some 131, none, .bin .add (.t 129) (.t 130)⟩,
     ⟨some 132, none, .conv (.int .u64) (.t 131)⟩,
     ⟨some 133, none, .bin .shr (.t 132) (.c (.int .u64 1))⟩,
     ⟨some 134, none, .conv (.int .i64) (.t 133)⟩,
     ⟨some 18, none, .mov (.t 134)⟩])
    (.seq
     (.reg [⟨some 135, none, .mov (.t 18)⟩,
      ⟨some 136, none, .mov (.t 2)⟩,
      ⟨some 137, none, .bin .add (.t 135) (.t 136)⟩,
      ⟨some 19, none, .mov (.t 137)⟩])
     (.seq
      (.reg [⟨some 20, none, .mov (.c (.int .i64 0))⟩,
       ⟨some 21, none, .mov (.c (.int .i64 0))⟩])
      (.seq
       (.seq
        (.reg [⟨some 138, none, .mov (.t 2)⟩,
         ⟨some 139, none, .mov (.t 18)⟩,
         ⟨some 140, none, .bin .gtr (.t 138) (.t 139)⟩])
        (.cond (.t 140)
         (.seq
          (.reg [⟨some 141, none, .mov (.t 19)⟩,
           ⟨some 142, none, .mov (.t 3)⟩,
           ⟨some 143, none, .bin .sub (.t 141) (.t 142)⟩,
           ⟨some 20, none, .mov (.t 143)⟩])
          (.reg [⟨some 144, none, .mov (.t 18)⟩,
           ⟨some 21, none, .mov (.t 144)⟩]))
         (.seq
          (.reg [⟨some 145, none, .mov (.t 1)⟩,
           ⟨some 20, none, .mov (.t 145)⟩])
          (.reg [⟨some 146, none, .mov (.t 2)⟩,
           ⟨some 21, none, .mov (.t 146)⟩]))))
       (.seq
        (.reg [⟨some 147, none, .mov (.t 19)⟩,
         ⟨some 148, none, .bin .sub (.t 147) (.c (.int .i64 1))⟩,
         ⟨some 22, none, .mov (.t 148)⟩])
        (.seq
         (.block 8
          (.loop [0, 1, 2, 3, 4, 18, 19, 20, 21, 22]
           c52b0))
         c52r0))))))
def c52r3 : AC := (.seq
        (.seq
         (.reg [⟨some 54, none, .mov (.t 1)⟩,
          ⟨some 13, none, .mov (.t 54)⟩])
         (.block 2
          (.loop [0, 10, 13]
           c52b3)))
        .ret)
def c52r4 : AC := (.seq
   (.seq
    (.reg [⟨some 77, none, .mov (.t 3)⟩,
     ⟨some 78, none, .mov (.t 2)⟩,
     ⟨some 79, none, .bin .sub (.t 77) (.t 78)⟩,
     ⟨some 80, none, .bin .eql (.t 79) (.c (.int .i64 1))⟩])
    (.cond (.t 80)
     (.seq
      (.reg [⟨some 81, none, .mov (.t 1)⟩,
       ⟨some 14, none, .mov (.t 81)⟩])
      (.seq
       (.reg [⟨some 82, none, .mov (.t 2)⟩,
        ⟨some 15, none, .mov (.t 82)⟩])
       (.seq
        (.block 4
         (.loop [0, 2, 4, 14, 15]
          c52b2))
        c52r1)))
     .skip))
   c52r2)
/-- slices.symMergeCmpFunc[tracebook/api.Block] -/
def c52 : AFn := ⟨5, 220, [],
 (.seq
  (.seq
   (.reg [⟨some 25, none, .mov (.t 2)⟩,
    ⟨some 26, none, .mov (.t 1)⟩,
    ⟨some 27, none, .bin .sub (.t 25) (.t 26)⟩,
    ⟨some 28, none, .bin .eql (.t 27) (.c (.int .i64 1))⟩])
   (.cond (.t 28)
    (.seq
     (.reg [⟨some 29, none, .mov (.t 2)⟩,
      ⟨some 10, none, .mov (.t 29)⟩])
     (.seq
      (.reg [⟨some 30, none, .mov (.t 3)⟩,
       ⟨some 11, none, .mov (.t 30)⟩])
      (.seq
       (.block 0
        (.loop [0, 1, 4, 10, 11]
         c52b4))
       c52r3)))
    .skip))
  c52r4), none⟩
def k52 : List (List Nat) := [[0, 1, 4, 10, 11], [0, 10, 13], [0, 2, 4, 14, 15], [0, 14, 17], [0, 1, 2, 3, 4, 18, 19, 20, 21, 22]]
def o52 : List Nat := [1000030, 1000032, 1000040, 1000045, 1000049, 1000051, 1000052, 1000055, 1000056, 1000057, 1000058, 1000059, 1000060, 1000061, 1000062, 1000065, 1000066, 1000069, 1000070, 1000071, 1000072, 3000000]
/-- tracebook/intern.isNameByte -/
def c53 : AFn := ⟨1, 34, [.t 2],
 (.seq
  (.reg [⟨some 2, none, .mov (.c (.bool false))⟩])
  (.seq
   (.block 0
    (.seq
     (.seq
      (.reg [⟨some 4, none, .mov (.t 0)⟩,
       ⟨some 5, none, .bin .leq (.c (.int .u8 97)) (.t 4)⟩,
       ⟨some 6, none, .mov (.t 5)⟩,
       ⟨some 7, some (6, true), .mov (.t 0)⟩,
       ⟨some 8, some (6, true), .bin .leq (.t 7) (.c (.int .u8 122))⟩,
       ⟨some 9, none, .pick (.t 6) (.t 8) (.c (.bool false))⟩,
       ⟨some 3, none, .mov (.t 9)⟩])
      (.cond (.t 3)
       .skip
       (.seq
        (.reg [⟨some 10, none, .mov (.t 0)⟩,
         ⟨some 11, none, .bin .leq (.c (.int .u8 65)) (.t 10)⟩,
         ⟨some 12, none, .mov (.t 11)⟩,
         ⟨some 13, some (12, true), .mov (.t 0)⟩,
         ⟨some 14, some (12, true), .bin .leq (.t 13) (.c (.int .u8 90))⟩,
         ⟨some 15, none, .pick (.t 12) (.t 14) (.c (.bool false))⟩,
         ⟨some 3, none, .mov (.t 15)⟩])
        (.cond (.t 3)
         .skip
         (.reg [⟨some 16, none, .mov (.t 0)⟩,
          ⟨some 17, none, .bin .leq (.c (.int .u8 48)) (.t 16)⟩,
          ⟨some 18, none, .mov (.t 17)⟩,
          ⟨some 19, some (18, true), .mov (.t 0)⟩,
          ⟨some 20, some (18, true), .bin .leq (.t 19) (.c (.int .u8 57))⟩,
          ⟨some 21, none, .pick (.t 18) (.t 20) (.c (.bool false))⟩,
          ⟨some 3, none, .mov (.t 21)⟩])))))
     (.cond (.t 3)
      (.seq
       (.reg [⟨some 2, none, .mov (.c (.bool true))⟩])
       .ret)
      .skip)))
   (.seq
    (.seq
     (.reg [⟨some 22, none, .mov (.t 0)⟩])
     (.block 1
      (.seq
       (.seq
        (.reg [⟨some 24, none, .bin .eql (.t 22) (.c (.int .u8 95))⟩,
         ⟨some 23, none, .mov (.t 24)⟩])
        (.cond (.t 23)
         .skip
         (.seq
          (.reg [⟨some 25, none, .bin .eql (.t 22) (.c (.int .u8 46))⟩,
           ⟨some 23, none, .mov (.t 25)⟩])
          (.cond (.t 23)
           .skip
           (.seq
            (.reg [⟨some 26, none, .bin .eql (.t 22) (.c (.int .u8 58))⟩,
             ⟨some 23, none, .mov (.t 26)⟩])
            (.cond (.t 23)
             .skip
             (.seq
              (.reg [⟨some 27, none, .bin .eql (.t 22) (.c (.int .u8 47))⟩,
               ⟨some 23, none, .mov (.t 27)⟩])
              (.cond (.t 23)
               .skip
               (.seq
                (.reg [⟨some 28, none, .bin .eql (.t 22) (.c (.int .u8 60))⟩,
                 ⟨some 23, none, .mov (.t 28)⟩])
                (.cond (.t 23)
                 .skip
                 (.seq
                  (.reg [⟨some 29, none, .bin .eql (.t 22) (.c (.int .u8 62))⟩,
                   ⟨some 23, none, .mov (.t 29)⟩])
                  (.cond (.t 23)
                   .skip
                   (.seq
                    (.reg [⟨some 30, none, .bin .eql (.t 22) (.c (.int .u8 36))⟩,
                     ⟨some 23, none, .mov (.t 30)⟩])
                    (.cond (.t 23)
                     .skip
                     (.seq
                      (.reg [⟨some 31, none, .bin .eql (.t 22) (.c (.int .u8 42))⟩,
                       ⟨some 23, none, .mov (.t 31)⟩])
                      (.cond (.t 23)
                       .skip
                       (.seq
                        (.reg [⟨some 32, none, .bin .eql (.t 22) (.c (.int .u8 126))⟩,
                         ⟨some 23, none, .mov (.t 32)⟩])
                        (.cond (.t 23)
                         .skip
                         (.reg [⟨some 33, none, .bin .eql (.t 22) (.c (.int .u8 45))⟩,
                          ⟨some 23, none, .mov (.t 33)⟩])))))))))))))))))))
       (.cond (.t 23)
        (.seq
         (.reg [⟨some 2, none, .mov (.c (.bool true))⟩])
         .ret)
        .skip))))
    (.seq
     (.reg [⟨some 2, none, .mov (.c (.bool false))⟩])
     .ret)))), none⟩
def k53 : List (List Nat) := []
def o53 : List Nat := [1000030, 1000032, 1000040, 1000045, 1000049, 1000051, 1000052, 1000055, 1000056, 1000057, 1000058, 1000059, 1000060, 1000061, 1000062, 1000065, 1000066, 1000069, 1000070, 1000071, 1000072, 3000000]
def c54b0 : AC := (.seq
         (.seq
          (.reg [⟨some 27, none, .mov (.t 4)⟩,
           ⟨some 28, none, .mov (.t 3)⟩,
           ⟨some 29, none, .lenS (.t 28)⟩,
           ⟨some 30, none, .bin .lss (.t 27) (.t 29)⟩])
          (.cond (.t 30)
           .skip
           (.exit 0)))
         (.seq
          (.block 1
           (.seq
            (.reg [⟨some 33, none, .mov (.t 3)⟩,
             ⟨some 34, none, .mov (.t 4)⟩,
             ⟨some 35, none, .idxS (.t 33) (.t 34)⟩,
             ⟨some 36, none, .mov (.t 0)⟩,
             ⟨some 37, none, .bin .eql (.t 35) (.t 36)⟩])
            (.cond (.t 37)
             (.seq
              (.reg [⟨some 2, none, .mov (.c (.bool true))⟩])
              .ret)
             .skip)))
          (.reg [⟨some 31, none, .mov (.t 4)⟩,
           ⟨some 32, none, .bin .add (.t 31) (.c (.int .i64 1))⟩,
           ⟨some 4, none, .mov (.t 32)⟩])))
/-- tracebook/tracebookref06.letter -/
def c54 : AFn := ⟨1, 38, [.t 2],
 (.seq
  (.reg [⟨some 2, none, .mov (.c (.bool false))⟩])
  (.seq
   (.seq
    (.reg [⟨some 5, none, .mov (.t 0)⟩,
     ⟨some 6, none, .bin .geq (.t 5) (.c (.int .u8 97))⟩,
     ⟨some 7, none, .mov (.t 6)⟩,
     ⟨some 8, some (7, true), .mov (.t 0)⟩,
     ⟨some 9, some (7, true), .bin .leq (.t 8) (.c (.int .u8 122))⟩,
     ⟨some 10, none, .pick (.t 7) (.t 9) (.c (.bool false))⟩,
     ⟨some 11, none, .mov (.t 10)⟩,
     ⟨some 12, some (11, false), .mov (.t 0)⟩,
     ⟨some 13, some (11, false), .bin .geq (.t 12) (.c (.int .u8 65))⟩,
     ⟨some 14, some (11, false), .mov (.t 13)⟩,
     ⟨some 15, some (14, true), .mov (.t 0)⟩,
     ⟨some 16, some (14, true), .bin .leq (.t 15) (.c (.int .u8 90))⟩,
     ⟨some 17, some (11, false), .pick (.t 14) (.t 16) (.c (.bool false))⟩,
     ⟨some 18, none, .pick (.t 11) (.c (.bool true)) (.t 17)⟩,
     ⟨some 19, none, .mov (.t 18)⟩,
     ⟨some 20, some (19, false), .mov (.t 0)⟩,
     ⟨some 21, some (19, false), .bin .geq (.t 20) (.c (.int .u8 48))⟩,
     ⟨some 22, some (19, false), .mov (.t 21)⟩,
     ⟨some 23, some (22, true), .mov (.t 0)⟩,
     ⟨some 24, some (22, true), .bin .leq (.t 23) (.c (.int .u8 57))⟩,
     ⟨some 25, some (19, false), .pick (.t 22) (.t 24) (.c (.bool false))⟩,
     ⟨some 26, none, .pick (.t 19) (.c (.bool true)) (.t 25)⟩])
    (.cond (.t 26)
     (.seq
      (.reg [⟨some 2, none, .mov (.c (.bool true))⟩])
      .ret)
     .skip))
   (.seq
    (.reg [⟨some 3, none, .mov (.c (.str [95, 46, 58, 47, 60, 62, 36, 42, 126, 45]))⟩])
    (.seq
     (.seq
      (.reg [⟨some 4, none, .mov (.c (.int .i64 0))⟩])
      (.block 0
       (.loop [0, 3, 4]
        c54b0)))
     (.seq
      (.reg [⟨some 2, none, .mov (.c (.bool false))⟩])
      .ret))))), none⟩
def k54 : List (List Nat) := [[0, 3, 4]]
def o54 : List Nat := [1000030, 1000032, 1000040, 1000045, 1000049, 1000051, 1000052, 1000055, 1000056, 1000057, 1000058, 1000059, 1000060, 1000061, 1000062, 1000065, 1000066, 1000069, 1000070, 1000071, 1000072, 3000000]
def c55b0 : AC := (.seq
           (.seq
            (.reg [⟨some 18, none, .mov (.t 9)⟩,
             ⟨some 19, none, .mov (.t 1)⟩,
             ⟨some 20, none, .bin .gtr (.t 18) (.t 19)⟩,
             ⟨some 21, none, .mov (.t 20)⟩,
             ⟨some 22, some (21, true), .mov (.t 3)⟩,
             ⟨some 23, some (21, true), .mov (.t 0)⟩,
             ⟨some 24, some (21, true), .mov (.t 9)⟩,
             ⟨some 25, some (21, true), .iaddr (.slice 2) (.t 23) (.t 24)⟩,
             ⟨some 26, some (21, true), .load 2 true (.t 25)⟩,
             ⟨some 27, some (21, true), .mov (.t 0)⟩,
             ⟨some 28, some (21, true), .mov (.t 9)⟩,
             ⟨some 29, some (21, true), .bin .sub (.t 28) (.c (.int .i64 1))⟩,
             ⟨some 30, some (21, true), .iaddr (.slice 2) (.t 27) (.t 29)⟩,
             ⟨some 31, some (21, true), .load 2 true (.t 30)⟩,
             ⟨some 32, some (21, true), .calld false (.t 22) [(.t 26), (.t 31)]⟩,
             ⟨some 33, some (21, true), .bin .lss (.t 32) (.c (.int .i64 0))⟩,
             ⟨some 34, none, .pick (.t 21) (.t 33) (.c (.bool false))⟩])
            (.cond (.t 34)
             .skip
             (.exit 2)))
           (.seq
            (.block 3
             (.reg [⟨some 37, none, .mov (.t 0)⟩,
              ⟨some 38, none, .mov (.t 9)⟩,
              ⟨some 39, none, .mov (.t 0)⟩,
              ⟨some 40, none, .mov (.t 9)⟩,
              ⟨some 41, none, .bin .sub (.t 40) (.c (.int .i64 1))⟩,
              ⟨some 42, none, .mov (.t 0)⟩,
              ⟨some 43, none, .mov (.t 9)⟩,
              ⟨some 44, none, .bin .sub (.t 43) (.c (.int .i64 1))⟩,
              ⟨some 45, none, .iaddr (.slice 2) (.t 42) (.t 44)⟩,
              ⟨some 46, none, .load 2 true (.t 45)⟩,
              ⟨some 47, none, .mov (.t 0)⟩,
              ⟨some 48, none, .mov (.t 9)⟩,
              ⟨some 49, none, .iaddr (.slice 2) (.t 47) (.t 48)⟩,
              ⟨some 50, none, .load 2 true (.t 49)⟩,
              ⟨some 51, none, .iaddr (.slice 2) (.t 37) (.t 38)⟩,
              ⟨none, none, .store 2 (.t 51) (.t 46)⟩,
              ⟨some 52, none, .iaddr (.slice 2) (.t 39) (.t 41)⟩,
              ⟨none, none, .store 2 (.t 52) (.t 50)⟩]))
            (.reg [⟨some 35, none, .mov (.t 9)⟩,
             ⟨some 36, none, .bin .sub (.t 35) (.c (.int .i64 1))⟩,
             ⟨some 9, none, .mov (.t 36)⟩])))
def c55b1 : AC := (.seq
     (.seq
      (.reg [⟨some 12, none, .mov (.t 8)⟩,
       ⟨some 13, none, .mov (.t 2)⟩,
       ⟨some 14, none, .bin .lss (.t 12) (.t 13)⟩])
      (.cond (.t 14)
       .skip
       (.exit 0)))
     (.seq
      (.block 1
       (.seq
        (.reg [⟨some 17, none, .mov (.t 8)⟩,
         ⟨some 9, none, .mov (.t 17)⟩])
        (.block 2
         (.loop [0, 1, 2, 3, 8, 9]
          c55b0))))
      (.reg [⟨some 15, none, .mov (.t 8)⟩,
       ⟨some 16, none, .bin .add (.t 15) (.c (.int .i64 1))⟩,
       ⟨some 8, none, .mov (.t 16)⟩])))
/-- slices.insertionSortCmpFunc[tracebook/memory.resize] -/
def c55 : AFn := ⟨4, 53, [],
 (.seq
  (.reg [⟨some 10, none, .mov (.t 1)⟩,
   ⟨some 11, none, .bin .add (.t 10) (.c (.int .i64 1))⟩,
   ⟨some 8, none, .mov (.t 11)⟩])
  (.block 0
   (.loop [0, 1, 2, 3, 8]
    c55b1))), none⟩
def k55 : List (List Nat) := [[0, 1, 2, 3, 8], [0, 1, 2, 3, 8, 9]]
def o55 : List Nat := [1000030, 1000032, 1000040, 1000045, 1000049, 1000051, 1000052, 1000055, 1000056, 1000057, 1000058, 1000059, 1000060, 1000061, 1000062, 1000065, 1000066, 1000069, 1000070, 1000071, 1000072, 3000000]
def c56b0 : AC := (.seq
         (.seq
          (.reg [⟨some 32, none, .mov (.t 12)⟩,
           ⟨some 33, none, .bin .geq (.t 32) (.c (.int .i64 0))⟩])
          (.cond (.t 33)
           .skip
           (.exit 2)))
         (.seq
          (.block 3
           (.seq
            (.reg [⟨some 36, none, .mov (.t 0)⟩,
             ⟨some 37, none, .mov (.t 8)⟩,
             ⟨some 38, none, .mov (.t 0)⟩,
             ⟨some 39, none, .mov (.t 8)⟩,
             ⟨some 40, none, .mov (.t 12)⟩,
             ⟨some 41, none, .bin .add (.t 39) (.t 40)⟩,
             ⟨some 42, none, .mov (.t 0)⟩,
             ⟨some 43, none, .mov (.t 8)⟩,
             ⟨some 44, none, .mov (.t 12)⟩,
             ⟨some 45, none, .bin .add (.t 43) (.t 44)⟩,
             ⟨some 46, none, .iaddr (.slice 2) (.t 42) (.t 45)⟩,
             ⟨some 47, none, .load 2 true (.t 46)⟩,
             ⟨some 48, none, .mov (.t 0)⟩,
             ⟨some 49, none, .mov (.t 8)⟩,
             ⟨some 50, none, .iaddr (.slice 2) (.t 48) (.t 49)⟩,
             ⟨some 51, none, .load 2 true (.t 50)⟩,
             ⟨some 52, none, .iaddr (.slice 2) (.t 36) (.t 37)⟩,
             ⟨none, none, .store 2 (.t 52) (.t 47)⟩,
             ⟨some 53, none, .iaddr (.slice 2) (.t 38) (.t 41)⟩,
             ⟨none, none, .store 2 (.t 53) (.t 51)⟩])
            (.reg [⟨some 54, none, .mov (.t 0)⟩,
             ⟨some 55, none, .mov (.t 9)⟩,
             ⟨some 56, none, .mov (.t 12)⟩,
             ⟨some 57, none, .mov (.t 8)⟩,
             ⟨some 58, none, .mov (.t 3)⟩,
             ⟨some 59, none, .callS 66 [(.t 54), (.t 55), (.t 56), (.t 57), (.t 58)]⟩])))
          (.reg [⟨some 34, none, .mov (.t 12)⟩,
           ⟨some 35, none, .bin .sub (.t 34) (.c (.int .i64 1))⟩,
           ⟨some 12, none, .mov (.t 35)⟩])))
def c56b1 : AC := (.seq
         (.seq
          (.reg [⟨some 20, none, .mov (.t 11)⟩,
           ⟨some 21, none, .bin .geq (.t 20) (.c (.int .i64 0))⟩])
          (.cond (.t 21)
           .skip
           (.exit 0)))
         (.seq
          (.block 1
           (.reg [⟨some 24, none, .mov (.t 0)⟩,
            ⟨some 25, none, .mov (.t 11)⟩,
            ⟨some 26, none, .mov (.t 10)⟩,
            ⟨some 27, none, .mov (.t 8)⟩,
            ⟨some 28, none, .mov (.t 3)⟩,
            ⟨some 29, none, .callS 66 [(.t 24), (.t 25), (.t 26), (.t 27), (.t 28)]⟩]))
          (.reg [⟨some 22, none, .mov (.t 11)⟩,
           ⟨some 23, none, .bin .sub (.t 22) (.c (.int .i64 1))⟩,
           ⟨some 11, none, .mov (.t 23)⟩])))
def c56r0 : AC := (.seq
      (.reg [⟨some 30, none, .mov (.t 10)⟩,
       ⟨some 31, none, .bin .sub (.t 30) (.c (.int .i64 1))⟩,
       ⟨some 12, none, .mov (.t 31)⟩])
      (.block 2
       (.loop [0, 3, 8, 9, 12]
        c56b0)))
/-- slices.heapSortCmpFunc[tracebook/memory.resize] -/
def c56 : AFn := ⟨4, 60, [],
 (.seq
  (.reg [⟨some 13, none, .mov (.t 1)⟩,
   ⟨some 8, none, .mov (.t 13)⟩])
  (.seq
   (.reg [⟨some 9, none, .mov (.c (.int .i64 0))⟩])
   (.seq
    (.reg [⟨some 14, none, .mov (.t 2)⟩,
     ⟨some 15, none, .mov (.t 1)⟩,
     ⟨some 16, none, .bin .sub (.t 14) (.t 15)⟩,
     ⟨some 10, none, .mov (.t 16)⟩])
    (.seq
     (.seq
      (.reg [⟨some 17, none, .mov (.t 10)⟩,
       ⟨some 18, none, .bin .sub (.t 17) (.c (.int .i64 1))⟩,
       ⟨some 19, none, .bin .quo (.t 18) (.c (.int .i64 2))⟩,
       ⟨some 11, none, .mov (.t 19)⟩])
      (.block 0
       (.loop [0, 3, 8, 9, 10, 11]
        c56b1)))
     c56r0)))), none⟩
def k56 : List (List Nat) := [[0, 3, 8, 9, 10, 11], [0, 3, 8, 9, 12]]
def o56 : List Nat := [1000030, 1000032, 1000040, 1000045, 1000049, 1000051, 1000052, 1000055, 1000056, 1000057, 1000058, 1000059, 1000060, 1000061, 1000062, 1000065, 1000066, 1000069, 1000070, 1000071, 1000072, 3000000]
def c57b0 : AC := (.seq
          (.seq
           (.reg [⟨some 28, none, .mov (.t 11)⟩,
            ⟨some 29, none, .mov (.t 1)⟩,
            ⟨some 30, none, .mov (.t 8)⟩,
            ⟨some 31, none, .bin .quo (.t 30) (.c (.int .i64 4))⟩,
            ⟨some 32, none, .bin .mul (.t 31) (.c (.int .i64 2))⟩,
            ⟨some 33, none, .bin .add (.t 29) (.t 32)⟩,
            ⟨some 34, none, .bin .add (.t 33) (.c (.int .i64 1))⟩,
            ⟨some 35, none, .bin .leq (.t 28) (.t 34)⟩])
           (.cond (.t 35)
            .skip
            (.exit 0)))
          (.seq
           (.block 1
            (.seq
             (.reg [⟨some 38, none, .call false 68 [(.t 9)]⟩,
              ⟨some 39, none, .mov (.t 10)⟩,
              ⟨some 40, none, .bin .sub (.t 39) (.c (.int .u64 1))⟩,
              ⟨some 41, none, .bin .and (.t 38) (.t 40)⟩,
              ⟨some 42, none, .conv (.int .i64) (.t 41)⟩,
              ⟨some 12, none, .mov (.t 42)⟩])
             (.seq
              (.seq
               (.reg [⟨some 43, none, .mov (.t 12)⟩,
                ⟨some 44, none, .mov (.t 8)⟩,
                ⟨some 45, none, .bin .geq (.t 43) (.t 44)⟩])
               (.cond (.t 45)
                (.reg [⟨some 46, none, .mov (.t 12)⟩,
                 ⟨some 47, none, .mov (.t 8)⟩,
                 ⟨some 48, none, .bin .sub (.t 46) (.t 47)⟩,
                 ⟨some 12, none, .mov (.t 48)⟩])
                .skip))
              (.reg [⟨some 49, none, .mov (.t 0)⟩,
               ⟨some 50, none, .mov (.t 11)⟩,
               ⟨some 51, none, .mov (.t 0)⟩,
               ⟨some 52, none, .mov (.t 1)⟩,
               ⟨some 53, none, .mov (.t 12)⟩,
               ⟨some 54, none, .bin .add (.t 52) (.t 53)⟩,
               ⟨some 55, none, .mov (.t 0)⟩,
               ⟨some 56, none, .mov (.t 1)⟩,
               ⟨some 57, none, .mov (.t 12)⟩,
               ⟨some 58, none, .bin .add (.t 56) (.t 57)⟩,
               ⟨some 59, none, .iaddr (.slice 2) (.t 55) (.t 58)⟩,
               ⟨some 60, none, .load 2 true (.t 59)⟩,
               ⟨some 61, none, .mov (.t 0)⟩,
               ⟨some 62, none, .mov (.t 11)⟩,
               ⟨some 63, none, .iaddr (.slice 2) (.t 61) (.t 62)⟩,
               ⟨some 64, none, .load 2 true (.t 63)⟩,
               ⟨some 65, none, .iaddr (.slice 2) (.t 49) (.t 50)⟩,
               ⟨none, none, .store 2 (.t 65) (.t 60)⟩,
               ⟨some 66, none, .iaddr (.slice 2) (.t 51) (.t 54)⟩,
               ⟨none, none, .store 2 (.t 66) (.t 64)⟩]))))
           (.reg [⟨some 36, none, .mov (.t 11)⟩,
            ⟨some 37, none, .bin .add (.t 36) (.c (.int .i64 1))⟩,
            ⟨some 11, none, .mov (.t 37)⟩])))
/-- slices.breakPatternsCmpFunc[tracebook/memory.resize] -/
def c57 : AFn := ⟨4, 67, [],
 (.seq
  (.reg [⟨some 13, none, .mov (.t 2)⟩,
   ⟨some 14, none, .mov (.t 1)⟩,
   ⟨some 15, none, .bin .sub (.t 13) (.t 14)⟩,
   ⟨some 8, none, .mov (.t 15)⟩])
  (.seq
   (.reg [⟨some 16, none, .mov (.t 8)⟩,
    ⟨some 17, none, .bin .geq (.t 16) (.c (.int .i64 8))⟩])
   (.cond (.t 17)
    (.seq
     (.reg [⟨some 18, none, .mov (.t 8)⟩,
      ⟨some 19, none, .conv (.int .u64) (.t 18)⟩,
      ⟨some 9, none, .alloc [(.int .u64 0)]⟩,
      ⟨none, none, .store 1 (.t 9) (.t 19)⟩])
     (.seq
      (.reg [⟨some 20, none, .mov (.t 8)⟩,
       ⟨some 21, none, .call false 67 [(.t 20)]⟩,
       ⟨some 10, none, .mov (.t 21)⟩])
      (.seq
       (.reg [⟨some 22, none, .mov (.t 1)⟩,
        ⟨some 23, none, .mov (.t 8)⟩,
        ⟨some 24, none, .bin .quo (.t 23) (.c (.int .i64 4))⟩,
        ⟨some 25, none, .bin .mul (.t 24) (.c (.int .i64 2))⟩,
        ⟨some 26, none, .bin .add (.t 22) (.t 25)⟩,
        ⟨some 27, none, .bin .sub (.t 26) (.c (.int .i64 1))⟩,
        ⟨some 11, none, .mov (.t 27)⟩])
       (.block 0
        (.loop [0, 1, 8, 9, 10, 11]
         c57b0)))))
    .skip))), none⟩
def k57 : List (List Nat) := [[0, 1, 8, 9, 10, 11]]
def o57 : List Nat := [1000030, 1000032, 1000040, 1000045, 1000049, 1000051, 1000052, 1000055, 1000056, 1000057, 1000058, 1000059, 1000060, 1000061, 1000062, 1000065, 1000066, 1000069, 1000070, 1000071, 1000072, 3000000]
/-- slices.choosePivotCmpFunc[tracebook/memory.resize] -/
def c58 : AFn := ⟨4, 63, [.t 8, .t 9],
 (.seq
  (.reg [⟨some 8, none, .mov (.c (.int .i64 0))⟩,
   ⟨some 9, none, .mov (.c (.int .i64 0))⟩])
  (.seq
   (.reg [⟨some 15, none, .mov (.t 2)⟩,
    ⟨some 16, none, .mov (.t 1)⟩,
    ⟨some 17, none, .bin .sub (.t 15) (.t 16)⟩,
    ⟨some 10, none, .mov (.t 17)⟩])
   (.seq
    (.reg [⟨some 11, none, .alloc [(.int .i64 0)]⟩])
    (.seq
     (.reg [⟨some 18, none, .mov (.t 1)⟩,
      ⟨some 19, none, .mov (.t 10)⟩,
      ⟨some 20, none, .bin .quo (.t 19) (.c (.int .i64 4))⟩,
      ⟨some 21, none, .bin .mul (.t 20) (.c (.int .i64 1))⟩,
      ⟨some 22, none, .bin .add (.t 18) (.t 21)⟩,
      ⟨some 12, none, .mov (.t 22)⟩])
     (.seq
      (.reg [⟨some 23, none, .mov (.t 1)⟩,
       ⟨some 24, none, .mov (.t 10)⟩,
       ⟨some 25, none, .bin .quo (.t 24) (.c (.int .i64 4))⟩,
       ⟨some 26, none, .bin .mul (.t 25) (.c (.int .i64 2))⟩,
       ⟨some 27, none, .bin .add (.t 23) (.t 26)⟩,
       ⟨some 13, none, .mov (.t 27)⟩])
      (.seq
       (.reg [⟨some 28, none, .mov (.t 1)⟩,
        ⟨some 29, none, .mov (.t 10)⟩,
        ⟨some 30, none, .bin .quo (.t 29) (.c (.int .i64 4))⟩,
        ⟨some 31, none, .bin .mul (.t 30) (.c (.int .i64 3))⟩,
        ⟨some 32, none, .bin .add (.t 28) (.t 31)⟩,
        ⟨some 14, none, .mov (.t 32)⟩])
       (.seq
        (.seq
         (.reg [⟨some 33, none, .mov (.t 10)⟩,
          ⟨some 34, none, .bin .geq (.t 33) (.c (.int .i64 8))⟩])
         (.cond (.t 34)
          (.seq
           (.seq
            (.reg [⟨some 35, none, .mov (.t 10)⟩,
             ⟨some 36, none, .bin .geq (.t 35) (.c (.int .i64 50))⟩])
            (.cond (.t 36)
             (.seq
              (.reg [⟨some 37, none, .mov (.t 0)⟩,
               ⟨some 38, none, .mov (.t 12)⟩,
               ⟨some 39, none, .mov (.t 3)⟩,
               ⟨some 40, none, .callS 69 [(.t 37), (.t 38), (.t 11), (.t 39)]⟩,
               ⟨some 12, none, .mov (.t 40)⟩])
              (.seq
               (.reg [⟨some 41, none, .mov (.t 0)⟩,
                ⟨some 42, none, .mov (.t 13)⟩,
                ⟨some 43, none, .mov (.t 3)⟩,
                ⟨some 44, none, .callS 69 [(.t 41), (.t 42), (.t 11), (.t 43)]⟩,
                ⟨some 13, none, .mov (.t 44)⟩])
               (.reg [⟨some 45, none, .mov (.t 0)⟩,
                ⟨some 46, none, .mov (.t 14)⟩,
                ⟨some 47, none, .mov (.t 3)⟩,
                ⟨some 48, none, .callS 69 [(.t 45), (.t 46), (.t 11), (.t 47)]⟩,
                ⟨some 14, none, .mov (.t 48)⟩])))
             .skip))
           (.reg [⟨some 49, none, .mov (.t 0)⟩,
            ⟨some 50, none, .mov (.t 12)⟩,
            ⟨some 51, none, .mov (.t 13)⟩,
            ⟨some 52, none, .mov (.t 14)⟩,
            ⟨some 53, none, .mov (.t 3)⟩,
            ⟨some 54, none, .callS 70 [(.t 49), (.t 50), (.t 51), (.t 52), (.t 11), (.t 53)]⟩,
            ⟨some 13, none, .mov (.t 54)⟩]))
          .skip))
        (.seq
         (.reg [⟨some 55, none, .load 1 false (.t 11)⟩])
         (.block 0
          (.seq
           (.reg [⟨some 58, none, .bin .eql (.t 55) (.c (.int .i64 0))⟩,
            ⟨some 57, none, .mov (.t 58)⟩])
           (.cond (.t 57)
            (.seq
             (.reg [⟨some 59, none, .mov (.t 13)⟩,
              ⟨some 8, none, .mov (.t 59)⟩,
              ⟨some 9, none, .mov (.c (.int .i64 1))⟩])
             .ret)
            (.seq
             (.reg [⟨some 61, none, .bin .eql (.t 55) (.c (.int .i64 12))⟩,
              ⟨some 60, none, .mov (.t 61)⟩])
             (.cond (.t 60)
              (.seq
               (.reg [⟨some 62, none, .mov (.t 13)⟩,
                ⟨some 8, none, .mov (.t 62)⟩,
                ⟨some 9, none, .mov (.c (.int .i64 2))⟩])
               .ret)
              (.seq
               (.reg [⟨some 56, none, .mov (.t 13)⟩,
                ⟨some 8, none, .mov (.t 56)⟩,
                ⟨some 9, none, .mov (.c (.int .i64 0))⟩])
               .ret)))))))))))))), none⟩
def k58 : List (List Nat) := []
def o58 : List Nat := [1000030, 1000032, 1000040, 1000045, 1000049, 1000051, 1000052, 1000055, 1000056, 1000057, 1000058, 1000059, 1000060, 1000061, 1000062, 1000065, 1000066, 1000069, 1000070, 1000071, 1000072, 3000000]
def c59b0 : AC := (.seq
      (.seq
       (.reg [⟨some 13, none, .mov (.t 8)⟩,
        ⟨some 14, none, .mov (.t 9)⟩,
        ⟨some 15, none, .bin .lss (.t 13) (.t 14)⟩])
       (.cond (.t 15)
        .skip
        (.exit 0)))
      (.block 1
       (.seq
        (.reg [⟨some 16, none, .mov (.t 0)⟩,
         ⟨some 17, none, .mov (.t 8)⟩,
         ⟨some 18, none, .mov (.t 0)⟩,
         ⟨some 19, none, .mov (.t 9)⟩,
         ⟨some 20, none, .mov (.t 0)⟩,
         ⟨some 21, none, .mov (.t 9)⟩,
         ⟨some 22, none, .iaddr (.slice 2) (.t 20) (.t 21)⟩,
         ⟨some 23, none, .load 2 true (.t 22)⟩,
         ⟨some 24, none, .mov (.t 0)⟩,
         ⟨some 25, none, .mov (.t 8)⟩,
         ⟨some 26, none, .iaddr (.slice 2) (.t 24) (.t 25)⟩,
         ⟨some 27, none, .load 2 true (.t 26)⟩,
         ⟨some 28, none, .iaddr (.slice 2) (.t 16) (.t 17)⟩,
         ⟨none, none, .store 2 (.t 28) (.t 23)⟩,
         ⟨some 29, none, .iaddr (.slice 2) (.t 18) (.t 19)⟩,
         ⟨none, none, .store 2 (.t 29) (.t 27)⟩])
        (.seq
         (.reg [⟨some 30, none, .mov (.t 8)⟩,
          ⟨some 31, none, .bin .add (.t 30) (.c (.int .i64 1))⟩,
          ⟨some 8, none, .mov (.t 31)⟩])
         (.reg [⟨some 32, none, .mov (.t 9)⟩,
          ⟨some 33, none, .bin .sub (.t 32) (.c (.int .i64 1))⟩,
          ⟨some 9, none, .mov (.t 33)⟩])))))
/-- slices.reverseRangeCmpFunc[tracebook/memory.resize] -/
def c59 : AFn := ⟨4, 34, [],
 (.seq
  (.reg [⟨some 10, none, .mov (.t 1)⟩,
   ⟨some 8, none, .mov (.t 10)⟩])
  (.seq
   (.reg [⟨some 11, none, .mov (.t 2)⟩,
    ⟨some 12, none, .bin .sub (.t 11) (.c (.int .i64 1))⟩,
    ⟨some 9, none, .mov (.t 12)⟩])
   (.block 0
    (.loop [0, 8, 9]
     c59b0)))), none⟩
def k59 : List (List Nat) := [[0, 8, 9]]
def o59 : List Nat := [1000030, 1000032, 1000040, 1000045, 1000049, 1000051, 1000052, 1000055, 1000056, 1000057, 1000058, 1000059, 1000060, 1000061, 1000062, 1000065, 1000066, 1000069, 1000070, 1000071, 1000072, 3000000]
def c60b0 : AC := (.seq
                     (.seq
                      (.reg [⟨some 107, none, .mov (.t 12)⟩,
                       ⟨some 108, none, .mov (.t 2)⟩,
                       ⟨some 109, none, .bin .lss (.t 107) (.t 108)⟩])
                      (.cond (.t 109)
                       .skip
                       (.exit 6)))
                     (.seq
                      (.block 7
                       (.seq
                        (.seq
                         (.reg [⟨some 112, none, .mov (.t 3)⟩,
                          ⟨some 113, none, .mov (.t 0)⟩,
                          ⟨some 114, none, .mov (.t 12)⟩,
                          ⟨some 115, none, .iaddr (.slice 2) (.t 113) (.t 114)⟩,
                          ⟨some 116, none, .load 2 true (.t 115)⟩,
                          ⟨some 117, none, .mov (.t 0)⟩,
                          ⟨some 118, none, .mov (.t 12)⟩,
                          ⟨some 119, none, .bin .sub (.t 118) (.c (.int .i64 1))⟩,
                          ⟨some 120, none, .iaddr (.slice 2) (.t 117) (.t 119)⟩,
                          ⟨some 121, none, .load 2 true (.t 120)⟩,
                          ⟨some 122, none, .calld false (.t 112) [(.t 116), (.t 121)]⟩,
                          ⟨some 123, none, .bin .lss (.t 122) (.c (.int .i64 0))⟩,
                          ⟨some 124, none, .un .not (.t 123)⟩])
                         (.cond (.t 124)
                          (.exit 6)
                          .skip))
                        (.reg [⟨some 125, none, .mov (.t 0)⟩,
                         ⟨some 126, none, .mov (.t 12)⟩,
                         ⟨some 127, none, .mov (.t 0)⟩,
                         ⟨some 128, none, .mov (.t 12)⟩,
                         ⟨some 129, none, .bin .sub (.t 128) (.c (.int .i64 1))⟩,
                         ⟨some 130, none, .mov (.t 0)⟩,
                         ⟨some 131, none, .mov (.t 12)⟩,
                         ⟨some 132, none, .bin .sub (.t 131) (.c (.int .i64 1))⟩,
                         ⟨some 133, none, .iaddr (.slice 2) (.t 130) (.t 132)⟩,
                         ⟨some 134, none, .load 2 true (.t 133)⟩,
                         ⟨some 135, none, .mov (.t 0)⟩,
                         ⟨some 136, none, .mov (.t 12)⟩,
                         ⟨some 137, none, .iaddr (.slice 2) (.t 135) (.t 136)⟩,
                         ⟨some 138, none, .load 2 true (.t 137)⟩,
                         ⟨some 139, none, .iaddr (.slice 2) (.t 125) (.t 126)⟩,
                         ⟨none, none, .store 2 (.t 139) (.t 134)⟩,
                         ⟨some 140, none, .iaddr (.slice 2) (.t 127) (.t 129)⟩,
                         ⟨none, none, .store 2 (.t 140) (.t 138)⟩])))
                      (.reg [⟨some 110, none, .mov (.t 12)⟩,
                       ⟨some 111, none, .bin .add (.t 110) (.c (.int .i64 1))⟩,
                       ⟨some 12, none, .mov (.t 111)⟩])))
def c60b1 : AC := (.seq
                     (.seq
                      (.reg [⟨some 68, none, .mov (.t 11)⟩,
                       ⟨some 69, none, .bin .geq (.t 68) (.c (.int .i64 1))⟩])
                      (.cond (.t 69)
                       .skip
                       (.exit 4)))
                     (.seq
                      (.block 5
                       (.seq
                        (.seq
                         (.reg [⟨some 72, none, .mov (.t 3)⟩,
                          ⟨some 73, none, .mov (.t 0)⟩,
                          ⟨some 74, none, .mov (.t 11)⟩,
                          ⟨some 75, none, .iaddr (.slice 2) (.t 73) (.t 74)⟩,
                          ⟨some 76, none, .load 2 true (.t 75)⟩,
                          ⟨some 77, none, .mov (.t 0)⟩,
                          ⟨some 78, none, .mov (.t 11)⟩,
                          ⟨some 79, none, .bin .sub (.t 78) (.c (.int .i64 1))⟩,
                          ⟨some 80, none, .iaddr (.slice 2) (.t 77) (.t 79)⟩,
                          ⟨some 81, none, .load 2 true (.t 80)⟩,
                          ⟨some 82, none, .calld false (.t 72) [(.t 76), (.t 81)]⟩,
                          ⟨some 83, none, .bin .lss (.t 82) (.c (.int .i64 0))⟩,
                          ⟨some 84, none, .un .not (.t 83)⟩])
                         (.cond (.t 84)
                          (.exit 4)
                          .skip))
                        (.reg [⟨some 85, none, .mov (.t 0)⟩,
                         ⟨some 86, none, .mov (.t 11)⟩,
                         ⟨some 87, none, .mov (.t 0)⟩,
                         ⟨some 88, none, .mov (.t 11)⟩,
                         ⟨some 89, none, .bin .sub (.t 88) (.c (.int .i64 1))⟩,
                         ⟨some 90, none, .mov (.t 0)⟩,
                         ⟨some 91, none, .mov (.t 11)⟩,
                         ⟨some 92, none, .bin .sub (.t 91) (.c (.int .i64 1))⟩,
                         ⟨some 93, none, .iaddr (.slice 2) (.t 90) (.t 92)⟩,
                         ⟨some 94, none, .load 2 true (.t 93)⟩,
                         ⟨some 95, none, .mov (.t 0)⟩,
                         ⟨some 96, none, .mov (.t 11)⟩,
                         ⟨some 97, none, .iaddr (.slice 2) (.t 95) (.t 96)⟩,
                         ⟨some 98, none, .load 2 true (.t 97)⟩,
                         ⟨some 99, none, .iaddr (.slice 2) (.t 85) (.t 86)⟩,
                         ⟨none, none, .store 2 (.t 99) (.t 94)⟩,
                         ⟨some 100, none, .iaddr (.slice 2) (.t 87) (.t 89)⟩,
                         ⟨none, none, .store 2 (.t 100) (.t 98)⟩])))
                      (.reg [⟨some 70, none, .mov (.t 11)⟩,
                       ⟨some 71, none, .bin .sub (.t 70) (.c (.int .i64 1))⟩,
                       ⟨some 11, none, .mov (.t 71)⟩])))
def c60b2 : AC := (.seq
              (.seq
               (.reg [⟨some 19, none, .mov (.t 9)⟩,
                ⟨some 20, none, .mov (.t 2)⟩,
                ⟨some 21, none, .bin .lss (.t 19) (.t 20)⟩,
                ⟨some 22, none, .mov (.t 21)⟩,
                ⟨some 23, some (22, true), .mov (.t 3)⟩,
                ⟨some 24, some (22, true), .mov (.t 0)⟩,
                ⟨some 25, some (22, true), .mov (.t 9)⟩,
                ⟨some 26, some (22, true), .iaddr (.slice 2) (.t 24) (.t 25)⟩,
                ⟨some 27, some (22, true), .load 2 true (.t 26)⟩,
                ⟨some 28, some (22, true), .mov (.t 0)⟩,
                ⟨some 29, some (22, true), .mov (.t 9)⟩,
                ⟨some 30, some (22, true), .bin .sub (.t 29) (.c (.int .i64 1))⟩,
                ⟨some 31, some (22, true), .iaddr (.slice 2) (.t 28) (.t 30)⟩,
                ⟨some 32, some (22, true), .load 2 true (.t 31)⟩,
                ⟨some 33, some (22, true), .calld false (.t 23) [(.t 27), (.t 32)]⟩,
                ⟨some 34, some (22, true), .bin .lss (.t 33) (.c (.int .i64 0))⟩,
                ⟨some 35, some (22, true), .un .not (.t 34)⟩,
                ⟨some 36, none, .pick (.t 22) (.t 35) (.c (.bool false))⟩])
               (.cond (.t 36)
                .skip
                (.exit 2)))
              (.block 3
               (.reg [⟨some 37, none, .mov (.t 9)⟩,
                ⟨some 38, none, .bin .add (.t 37) (.c (.int .i64 1))⟩,
                ⟨some 9, none, .mov (.t 38)⟩])))
def c60r0 : AC := (.seq
                (.reg [⟨some 101, none, .mov (.t 2)⟩,
                 ⟨some 102, none, .mov (.t 9)⟩,
                 ⟨some 103, none, .bin .sub (.t 101) (.t 102)⟩,
                 ⟨some 104, none, .bin .geq (.t 103) (.c (.int .i64 2))⟩])
                (.cond (.t 104)
                 (.seq
                  (.reg [⟨some 105, none, .mov (.t 9)⟩,
                   ⟨some 106, none, .bin .add (.t 105) (.c (.int .i64 1))⟩,
                   ⟨some 12, none, .mov (.t 106)⟩])
                  (.block 6
                   (.loop [0, 1, 2, 3, 9, 10, 12]
                    c60b0)))
                 .skip))
def c60r1 : AC := (.seq
            (.seq
             (.reg [⟨some 39, none, .mov (.t 9)⟩,
              ⟨some 40, none, .mov (.t 2)⟩,
              ⟨some 41, none, .bin .eql (.t 39) (.t 40)⟩])
             (.cond (.t 41)
              (.seq
               (.reg [⟨some 8, none, .mov (.c (.bool true))⟩])
               .ret)
              .skip))
            (.seq
             (.seq
              (.reg [⟨some 42, none, .mov (.t 2)⟩,
               ⟨some 43, none, .mov (.t 1)⟩,
               ⟨some 44, none, .bin .sub (.t 42) (.t 43)⟩,
               ⟨some 45, none, .bin .lss (.t 44) (.c (.int .i64 50))⟩])
              (.cond (.t 45)
               (.seq
                (.reg [⟨some 8, none, .mov (.c (.bool false))⟩])
                .ret)
               .skip))
             (.seq
              (.reg [⟨some 46, none, .mov (.t 0)⟩,
               ⟨some 47, none, .mov (.t 9)⟩,
               ⟨some 48, none, .mov (.t 0)⟩,
               ⟨some 49, none, .mov (.t 9)⟩,
               ⟨some 50, none, .bin .sub (.t 49) (.c (.int .i64 1))⟩,
               ⟨some 51, none, .mov (.t 0)⟩,
               ⟨some 52, none, .mov (.t 9)⟩,
               ⟨some 53, none, .bin .sub (.t 52) (.c (.int .i64 1))⟩,
               ⟨some 54, none, .iaddr (.slice 2) (.t 51) (.t 53)⟩,
               ⟨some 55, none, .load 2 true (.t 54)⟩,
               ⟨some 56, none, .mov (.t 0)⟩,
               ⟨some 57, none, .mov (.t 9)⟩,
               ⟨some 58, none, .iaddr (.slice 2) (.t 56) (.t 57)⟩,
               ⟨some 59, none, .load 2 true (.t 58)⟩,
               ⟨some 60, none, .iaddr (.slice 2) (.t 46) (.t 47)⟩,
               ⟨none, none, .store 2 (.t 60) (.t 55)⟩,
               ⟨some 61, none, .iaddr (.slice 2) (.t 48) (.t 50)⟩,
               ⟨none, none, .store 2 (.t 61) (.t 59)⟩])
              (.seq
               (.seq
                (.reg [⟨some 62, none, .mov (.t 9)⟩,
                 ⟨some 63, none, .mov (.t 1)⟩,
                 ⟨some 64, none, .bin .sub (.t 62) (.t 63)⟩,
                 ⟨some 65, none, .bin .geq (.t 64) (.c (.int .i64 2))⟩])
                (.cond (.t 65)
                 (.seq
                  (.reg [⟨some 66, none, .mov (.t 9)⟩,
                   ⟨some 67, none, .bin .sub (.t 66) (.c (.int .i64 1))⟩,
                   ⟨some 11, none, .mov (.t 67)⟩])
                  (.block 4
                   (.loop [0, 1, 2, 3, 9, 10, 11]
                    c60b1)))
                 .skip))
               c60r0))))
def c60b3 : AC := (.seq
        (.seq
         (.reg [⟨some 15, none, .mov (.t 10)⟩,
          ⟨some 16, none, .bin .lss (.t 15) (.c (.int .i64 5))⟩])
         (.cond (.t 16)
          .skip
          (.exit 0)))
        (.seq
         (.block 1
          (.seq
           (.block 2
            (.loop [0, 1, 2, 3, 9, 10]
             c60b2))
           c60r1))
         (.reg [⟨some 17, none, .mov (.t 10)⟩,
          ⟨some 18, none, .bin .add (.t 17) (.c (.int .i64 1))⟩,
          ⟨some 10, none, .mov (.t 18)⟩])))
/-- slices.partialInsertionSortCmpFunc[tracebook/memory.resize] -/
def c60 : AFn := ⟨4, 141, [.t 8],
 (.seq
  (.reg [⟨some 8, none, .mov (.c (.bool false))⟩])
  (.seq
   (.reg [⟨some 13, none, .mov (.t 1)⟩,
    ⟨some 14, none, .bin .add (.t 13) (.c (.int .i64 1))⟩,
    ⟨some 9, none, .mov (.t 14)⟩])
   (.seq
    (.seq
     (.reg [⟨some 10, none, .mov (.c (.int .i64 0))⟩])
     (.block 0
      (.loop [0, 1, 2, 3, 9, 10]
       c60b3)))
    (.seq
     (.reg [⟨some 8, none, .mov (.c (.bool false))⟩])
     .ret)))), none⟩
def k60 : List (List Nat) := [[0, 1, 2, 3, 9, 10], [0, 1, 2, 3, 9, 10], [0, 1, 2, 3, 9, 10, 11], [0, 1, 2, 3, 9, 10, 12]]
def o60 : List Nat := [1000030, 1000032, 1000040, 1000045, 1000049, 1000051, 1000052, 1000055, 1000056, 1000057, 1000058, 1000059, 1000060, 1000061, 1000062, 1000065, 1000066, 1000069, 1000070, 1000071, 1000072, 3000000]
def c61b0 : AC := (.seq
             (.seq
              (.reg [⟨some 50, none, .mov (.t 11)⟩,
               ⟨some 51, none, .mov (.t 12)⟩,
               ⟨some 52, none, .bin .leq (.t 50) (.t 51)⟩,
               ⟨some 53, none, .mov (.t 52)⟩,
               ⟨some 54, some (53, true), .mov (.t 4)⟩,
               ⟨some 55, some (53, true), .mov (.t 0)⟩,
               ⟨some 56, some (53, true), .mov (.t 1)⟩,
               ⟨some 57, some (53, true), .iaddr (.slice 2) (.t 55) (.t 56)⟩,
               ⟨some 58, some (53, true), .load 2 true (.t 57)⟩,
               ⟨some 59, some (53, true), .mov (.t 0)⟩,
               ⟨some 60, some (53, true), .mov (.t 12)⟩,
               ⟨some 61, some (53, true), .iaddr (.slice 2) (.t 59) (.t 60)⟩,
               ⟨some 62, some (53, true), .load 2 true (.t 61)⟩,
               ⟨some 63, some (53, true), .calld false (.t 54) [(.t 58), (.t 62)]⟩,
               ⟨some 64, some (53, true), .bin .lss (.t 63) (.c (.int .i64 0))⟩,
               ⟨some 65, none, .pick (.t 53) (.t 64) (.c (.bool false))⟩])
              (.cond (.t 65)
               .skip
               (.exit 4)))
             (.block 5
              (.reg [⟨some 66, none, .mov (.t 12)⟩,
               ⟨some 67, none, .bin .sub (.t 66) (.c (.int .i64 1))⟩,
               ⟨some 12, none, .mov (.t 67)⟩])))
def c61b1 : AC := (.seq
            (.seq
             (.reg [⟨some 31, none, .mov (.t 11)⟩,
              ⟨some 32, none, .mov (.t 12)⟩,
              ⟨some 33, none, .bin .leq (.t 31) (.t 32)⟩,
              ⟨some 34, none, .mov (.t 33)⟩,
              ⟨some 35, some (34, true), .mov (.t 4)⟩,
              ⟨some 36, some (34, true), .mov (.t 0)⟩,
              ⟨some 37, some (34, true), .mov (.t 1)⟩,
              ⟨some 38, some (34, true), .iaddr (.slice 2) (.t 36) (.t 37)⟩,
              ⟨some 39, some (34, true), .load 2 true (.t 38)⟩,
              ⟨some 40, some (34, true), .mov (.t 0)⟩,
              ⟨some 41, some (34, true), .mov (.t 11)⟩,
              ⟨some 42, some (34, true), .iaddr (.slice 2) (.t 40) (.t 41)⟩,
              ⟨some 43, some (34, true), .load 2 true (.t 42)⟩,
              ⟨some 44, some (34, true), .calld false (.t 35) [(.t 39), (.t 43)]⟩,
              ⟨some 45, some (34, true), .bin .lss (.t 44) (.c (.int .i64 0))⟩,
              ⟨some 46, some (34, true), .un .not (.t 45)⟩,
              ⟨some 47, none, .pick (.t 34) (.t 46) (.c (.bool false))⟩])
             (.cond (.t 47)
              .skip
              (.exit 2)))
            (.block 3
             (.reg [⟨some 48, none, .mov (.t 11)⟩,
              ⟨some 49, none, .bin .add (.t 48) (.c (.int .i64 1))⟩,
              ⟨some 11, none, .mov (.t 49)⟩])))
def c61r0 : AC := (.seq
          (.block 4
           (.loop [0, 1, 4, 11, 12]
            c61b0))
          (.seq
           (.seq
            (.reg [⟨some 68, none, .mov (.t 11)⟩,
             ⟨some 69, none, .mov (.t 12)⟩,
             ⟨some 70, none, .bin .gtr (.t 68) (.t 69)⟩])
            (.cond (.t 70)
             (.exit 0)
             .skip))
           (.seq
            (.reg [⟨some 71, none, .mov (.t 0)⟩,
             ⟨some 72, none, .mov (.t 11)⟩,
             ⟨some 73, none, .mov (.t 0)⟩,
             ⟨some 74, none, .mov (.t 12)⟩,
             ⟨some 75, none, .mov (.t 0)⟩,
             ⟨some 76, none, .mov (.t 12)⟩,
             ⟨some 77, none, .iaddr (.slice 2) (.t 75) (.t 76)⟩,
             ⟨some 78, none, .load 2 true (.t 77)⟩,
             ⟨some 79, none, .mov (.t 0)⟩,
             ⟨some 80, none, .mov (.t 11)⟩,
             ⟨some 81, none, .iaddr (.slice 2) (.t 79) (.t 80)⟩,
             ⟨some 82, none, .load 2 true (.t 81)⟩,
             ⟨some 83, none, .iaddr (.slice 2) (.t 71) (.t 72)⟩,
             ⟨none, none, .store 2 (.t 83) (.t 78)⟩,
             ⟨some 84, none, .iaddr (.slice 2) (.t 73) (.t 74)⟩,
             ⟨none, none, .store 2 (.t 84) (.t 82)⟩])
            (.seq
             (.reg [⟨some 85, none, .mov (.t 11)⟩,
              ⟨some 86, none, .bin .add (.t 85) (.c (.int .i64 1))⟩,
              ⟨some 11, none, .mov (.t 86)⟩])
             (.reg [⟨some 87, none, .mov (.t 12)⟩,
              ⟨some 88, none, .bin .sub (.t 87) (.c (.int .i64 1))⟩,
              ⟨some 12, none, .mov (.t 88)⟩])))))
def c61b2 : AC := (.block 1
        (.seq
         (.block 2
          (.loop [0, 1, 4, 11, 12]
           c61b1))
         c61r0))
/-- slices.partitionEqualCmpFunc[tracebook/memory.resize] -/
def c61 : AFn := ⟨5, 90, [.t 10],
 (.seq
  (.reg [⟨some 10, none, .mov (.c (.int .i64 0))⟩])
  (.seq
   (.reg [⟨some 13, none, .mov (.t 0)⟩,
    ⟨some 14, none, .mov (.t 1)⟩,
    ⟨some 15, none, .mov (.t 0)⟩,
    ⟨some 16, none, .mov (.t 3)⟩,
    ⟨some 17, none, .mov (.t 0)⟩,
    ⟨some 18, none, .mov (.t 3)⟩,
    ⟨some 19, none, .iaddr (.slice 2) (.t 17) (.t 18)⟩,
    ⟨some 20, none, .load 2 true (.t 19)⟩,
    ⟨some 21, none, .mov (.t 0)⟩,
    ⟨some 22, none, .mov (.t 1)⟩,
    ⟨some 23, none, .iaddr (.slice 2) (.t 21) (.t 22)⟩,
    ⟨some 24, none, .load 2 true (.t 23)⟩,
    ⟨some 25, none, .iaddr (.slice 2) (.t 13) (.t 14)⟩,
    ⟨none, none, .store 2 (.t 25) (.t 20)⟩,
    ⟨some 26, none, .iaddr (.slice 2) (.t 15) (.t 16)⟩,
    ⟨none, none, .store 2 (.t 26) (.t 24)⟩])
   (.seq
    (.reg [⟨some 27, none, .mov (.t 1)⟩,
     ⟨some 28, none, .bin .add (.t 27) (.c (.int .i64 1))⟩,
     ⟨some 29, none, .mov (.t 2)⟩,
     ⟨some 30, none, .bin .sub (.t 29) (.c (.int .i64 1))⟩,
     ⟨some 11, none, .mov (.t 28)⟩,
     ⟨some 12, none, .mov (.t 30)⟩])
    (.seq
     (.block 0
      (.loop [0, 1, 4, 11, 12]
       c61b2))
     (.seq
      (.reg [⟨some 89, none, .mov (.t 11)⟩,
       ⟨some 10, none, .mov (.t 89)⟩])
      .ret))))), none⟩
def k61 : List (List Nat) := [[0, 1, 4, 11, 12], [0, 1, 4, 11, 12], [0, 1, 4, 11, 12]]
def o61 : List Nat := [1000030, 1000032, 1000040, 1000045, 1000049, 1000051, 1000052, 1000055, 1000056, 1000057, 1000058, 1000059, 1000060, 1000061, 1000062, 1000065, 1000066, 1000069, 1000070, 1000071, 1000072, 3000000]
def c62b0 : AC := (.seq
                   (.seq
                    (.reg [⟨some 123, none, .mov (.t 12)⟩,
                     ⟨some 124, none, .mov (.t 13)⟩,
                     ⟨some 125, none, .bin .leq (.t 123) (.t 124)⟩,
                     ⟨some 126, none, .mov (.t 125)⟩,
                     ⟨some 127, some (126, true), .mov (.t 4)⟩,
                     ⟨some 128, some (126, true), .mov (.t 0)⟩,
                     ⟨some 129, some (126, true), .mov (.t 13)⟩,
                     ⟨some 130, some (126, true), .iaddr (.slice 2) (.t 128) (.t 129)⟩,
                     ⟨some 131, some (126, true), .load 2 true (.t 130)⟩,
                     ⟨some 132, some (126, true), .mov (.t 0)⟩,
                     ⟨some 133, some (126, true), .mov (.t 1)⟩,
                     ⟨some 134, some (126, true), .iaddr (.slice 2) (.t 132) (.t 133)⟩,
                     ⟨some 135, some (126, true), .load 2 true (.t 134)⟩,
                     ⟨some 136, some (126, true), .calld false (.t 127) [(.t 131), (.t 135)]⟩,
                     ⟨some 137, some (126, true), .bin .lss (.t 136) (.c (.int .i64 0))⟩,
                     ⟨some 138, some (126, true), .un .not (.t 137)⟩,
                     ⟨some 139, none, .pick (.t 126) (.t 138) (.c (.bool false))⟩])
                    (.cond (.t 139)
                     .skip
                     (.exit 8)))
                   (.block 9
                    (.reg [⟨some 140, none, .mov (.t 13)⟩,
                     ⟨some 141, none, .bin .sub (.t 140) (.c (.int .i64 1))⟩,
                     ⟨some 13, none, .mov (.t 141)⟩])))
def c62b1 : AC := (.seq
                  (.seq
                   (.reg [⟨some 105, none, .mov (.t 12)⟩,
                    ⟨some 106, none, .mov (.t 13)⟩,
                    ⟨some 107, none, .bin .leq (.t 105) (.t 106)⟩,
                    ⟨some 108, none, .mov (.t 107)⟩,
                    ⟨some 109, some (108, true), .mov (.t 4)⟩,
                    ⟨some 110, some (108, true), .mov (.t 0)⟩,
                    ⟨some 111, some (108, true), .mov (.t 12)⟩,
                    ⟨some 112, some (108, true), .iaddr (.slice 2) (.t 110) (.t 111)⟩,
                    ⟨some 113, some (108, true), .load 2 true (.t 112)⟩,
                    ⟨some 114, some (108, true), .mov (.t 0)⟩,
                    ⟨some 115, some (108, true), .mov (.t 1)⟩,
                    ⟨some 116, some (108, true), .iaddr (.slice 2) (.t 114) (.t 115)⟩,
                    ⟨some 117, some (108, true), .load 2 true (.t 116)⟩,
                    ⟨some 118, some (108, true), .calld false (.t 109) [(.t 113), (.t 117)]⟩,
                    ⟨some 119, some (108, true), .bin .lss (.t 118) (.c (.int .i64 0))⟩,
                    ⟨some 120, none, .pick (.t 108) (.t 119) (.c (.bool false))⟩])
                   (.cond (.t 120)
                    .skip
                    (.exit 6)))
                  (.block 7
                   (.reg [⟨some 121, none, .mov (.t 12)⟩,
                    ⟨some 122, none, .bin .add (.t 121) (.c (.int .i64 1))⟩,
                    ⟨some 12, none, .mov (.t 122)⟩])))
def c62r0 : AC := (.seq
                (.block 8
                 (.loop [0, 1, 4, 12, 13]
                  c62b0))
                (.seq
                 (.seq
                  (.reg [⟨some 142, none, .mov (.t 12)⟩,
                   ⟨some 143, none, .mov (.t 13)⟩,
                   ⟨some 144, none, .bin .gtr (.t 142) (.t 143)⟩])
                  (.cond (.t 144)
                   (.exit 4)
                   .skip))
                 (.seq
                  (.reg [⟨some 145, none, .mov (.t 0)⟩,
                   ⟨some 146, none, .mov (.t 12)⟩,
                   ⟨some 147, none, .mov (.t 0)⟩,
                   ⟨some 148, none, .mov (.t 13)⟩,
                   ⟨some 149, none, .mov (.t 0)⟩,
                   ⟨some 150, none, .mov (.t 13)⟩,
                   ⟨some 151, none, .iaddr (.slice 2) (.t 149) (.t 150)⟩,
                   ⟨some 152, none, .load 2 true (.t 151)⟩,
                   ⟨some 153, none, .mov (.t 0)⟩,
                   ⟨some 154, none, .mov (.t 12)⟩,
                   ⟨some 155, none, .iaddr (.slice 2) (.t 153) (.t 154)⟩,
                   ⟨some 156, none, .load 2 true (.t 155)⟩,
                   ⟨some 157, none, .iaddr (.slice 2) (.t 145) (.t 146)⟩,
                   ⟨none, none, .store 2 (.t 157) (.t 152)⟩,
                   ⟨some 158, none, .iaddr (.slice 2) (.t 147) (.t 148)⟩,
                   ⟨none, none, .store 2 (.t 158) (.t 156)⟩])
                  (.seq
                   (.reg [⟨some 159, none, .mov (.t 12)⟩,
                    ⟨some 160, none, .bin .add (.t 159) (.c (.int .i64 1))⟩,
                    ⟨some 12, none, .mov (.t 160)⟩])
                   (.reg [⟨some 161, none, .mov (.t 13)⟩,
                    ⟨some 162, none, .bin .sub (.t 161) (.c (.int .i64 1))⟩,
                    ⟨some 13, none, .mov (.t 162)⟩])))))
def c62b2 : AC := (.block 5
              (.seq
               (.block 6
                (.loop [0, 1, 4, 12, 13]
                 c62b1))
               c62r0))
def c62b3 : AC := (.seq
         (.seq
          (.reg [⟨some 50, none, .mov (.t 12)⟩,
           ⟨some 51, none, .mov (.t 13)⟩,
           ⟨some 52, none, .bin .leq (.t 50) (.t 51)⟩,
           ⟨some 53, none, .mov (.t 52)⟩,
           ⟨some 54, some (53, true), .mov (.t 4)⟩,
           ⟨some 55, some (53, true), .mov (.t 0)⟩,
           ⟨some 56, some (53, true), .mov (.t 13)⟩,
           ⟨some 57, some (53, true), .iaddr (.slice 2) (.t 55) (.t 56)⟩,
           ⟨some 58, some (53, true), .load 2 true (.t 57)⟩,
           ⟨some 59, some (53, true), .mov (.t 0)⟩,
           ⟨some 60, some (53, true), .mov (.t 1)⟩,
           ⟨some 61, some (53, true), .iaddr (.slice 2) (.t 59) (.t 60)⟩,
           ⟨some 62, some (53, true), .load 2 true (.t 61)⟩,
           ⟨some 63, some (53, true), .calld false (.t 54) [(.t 58), (.t 62)]⟩,
           ⟨some 64, some (53, true), .bin .lss (.t 63) (.c (.int .i64 0))⟩,
           ⟨some 65, some (53, true), .un .not (.t 64)⟩,
           ⟨some 66, none, .pick (.t 53) (.t 65) (.c (.bool false))⟩])
          (.cond (.t 66)
           .skip
           (.exit 2)))
         (.block 3
          (.reg [⟨some 67, none, .mov (.t 13)⟩,
           ⟨some 68, none, .bin .sub (.t 67) (.c (.int .i64 1))⟩,
           ⟨some 13, none, .mov (.t 68)⟩])))
def c62b4 : AC := (.seq
        (.seq
         (.reg [⟨some 32, none, .mov (.t 12)⟩,
          ⟨some 33, none, .mov (.t 13)⟩,
          ⟨some 34, none, .bin .leq (.t 32) (.t 33)⟩,
          ⟨some 35, none, .mov (.t 34)⟩,
          ⟨some 36, some (35, true), .mov (.t 4)⟩,
          ⟨some 37, some (35, true), .mov (.t 0)⟩,
          ⟨some 38, some (35, true), .mov (.t 12)⟩,
          ⟨some 39, some (35, true), .iaddr (.slice 2) (.t 37) (.t 38)⟩,
          ⟨some 40, some (35, true), .load 2 true (.t 39)⟩,
          ⟨some 41, some (35, true), .mov (.t 0)⟩,
          ⟨some 42, some (35, true), .mov (.t 1)⟩,
          ⟨some 43, some (35, true), .iaddr (.slice 2) (.t 41) (.t 42)⟩,
          ⟨some 44, some (35, true), .load 2 true (.t 43)⟩,
          ⟨some 45, some (35, true), .calld false (.t 36) [(.t 40), (.t 44)]⟩,
          ⟨some 46, some (35, true), .bin .lss (.t 45) (.c (.int .i64 0))⟩,
          ⟨some 47, none, .pick (.t 35) (.t 46) (.c (.bool false))⟩])
         (.cond (.t 47)
          .skip
          (.exit 0)))
        (.block 1
         (.reg [⟨some 48, none, .mov (.t 12)⟩,
          ⟨some 49, none, .bin .add (.t 48) (.c (.int .i64 1))⟩,
          ⟨some 12, none, .mov (.t 49)⟩])))
def c62r1 : AC := (.seq
       (.seq
        (.reg [⟨some 69, none, .mov (.t 12)⟩,
         ⟨some 70, none, .mov (.t 13)⟩,
         ⟨some 71, none, .bin .gtr (.t 69) (.t 70)⟩])
        (.cond (.t 71)
         (.seq
          (.reg [⟨some 72, none, .mov (.t 0)⟩,
           ⟨some 73, none, .mov (.t 13)⟩,
           ⟨some 74, none, .mov (.t 0)⟩,
           ⟨some 75, none, .mov (.t 1)⟩,
           ⟨some 76, none, .mov (.t 0)⟩,
           ⟨some 77, none, .mov (.t 1)⟩,
           ⟨some 78, none, .iaddr (.slice 2) (.t 76) (.t 77)⟩,
           ⟨some 79, none, .load 2 true (.t 78)⟩,
           ⟨some 80, none, .mov (.t 0)⟩,
           ⟨some 81, none, .mov (.t 13)⟩,
           ⟨some 82, none, .iaddr (.slice 2) (.t 80) (.t 81)⟩,
           ⟨some 83, none, .load 2 true (.t 82)⟩,
           ⟨some 84, none, .iaddr (.slice 2) (.t 72) (.t 73)⟩,
           ⟨none, none, .store 2 (.t 84) (.t 79)⟩,
           ⟨some 85, none, .iaddr (.slice 2) (.t 74) (.t 75)⟩,
           ⟨none, none, .store 2 (.t 85) (.t 83)⟩])
          (.seq
           (.reg [⟨some 86, none, .mov (.t 13)⟩,
            ⟨some 10, none, .mov (.t 86)⟩,
            ⟨some 11, none, .mov (.c (.bool true))⟩])
           .ret))
         .skip))
       (.seq
        (.reg [⟨some 87, none, .mov (.t 0)⟩,
         ⟨some 88, none, .mov (.t 12)⟩,
         ⟨some 89, none, .mov (.t 0)⟩,
         ⟨some 90, none, .mov (.t 13)⟩,
         ⟨some 91, none, .mov (.t 0)⟩,
         ⟨some 92, none, .mov (.t 13)⟩,
         ⟨some 93, none, .iaddr (.slice 2) (.t 91) (.t 92)⟩,
         ⟨some 94, none, .load 2 true (.t 93)⟩,
         ⟨some 95, none, .mov (.t 0)⟩,
         ⟨some 96, none, .mov (.t 12)⟩,
         ⟨some 97, none, .iaddr (.slice 2) (.t 95) (.t 96)⟩,
         ⟨some 98, none, .load 2 true (.t 97)⟩,
         ⟨some 99, none, .iaddr (.slice 2) (.t 87) (.t 88)⟩,
         ⟨none, none, .store 2 (.t 99) (.t 94)⟩,
         ⟨some 100, none, .iaddr (.slice 2) (.t 89) (.t 90)⟩,
         ⟨none, none, .store 2 (.t 100) (.t 98)⟩])
        (.seq
         (.reg [⟨some 101, none, .mov (.t 12)⟩,
          ⟨some 102, none, .bin .add (.t 101) (.c (.int .i64 1))⟩,
          ⟨some 12, none, .mov (.t 102)⟩])
         (.seq
          (.reg [⟨some 103, none, .mov (.t 13)⟩,
           ⟨some 104, none, .bin .sub (.t 103) (.c (.int .i64 1))⟩,
           ⟨some 13, none, .mov (.t 104)⟩])
          (.seq
           (.block 4
            (.loop [0, 1, 4, 12, 13]
             c62b2))
           (.seq
            (.reg [⟨some 163, none, .mov (.t 0)⟩,
             ⟨some 164, none, .mov (.t 13)⟩,
             ⟨some 165, none, .mov (.t 0)⟩,
             ⟨some 166, none, .mov (.t 1)⟩,
             ⟨some 167, none, .mov (.t 0)⟩,
             ⟨some 168, none, .mov (.t 1)⟩,
             ⟨some 169, none, .iaddr (.slice 2) (.t 167) (.t 168)⟩,
             ⟨some 170, none, .load 2 true (.t 169)⟩,
             ⟨some 171, none, .mov (.t 0)⟩,
             ⟨some 172, none, .mov (.t 13)⟩,
             ⟨some 173, none, .iaddr (.slice 2) (.t 171) (.t 172)⟩,
             ⟨some 174, none, .load 2 true (.t 173)⟩,
             ⟨some 175, none, .iaddr (.slice 2) (.t 163) (.t 164)⟩,
             ⟨none, none, .store 2 (.t 175) (.t 170)⟩,
             ⟨some 176, none, .iaddr (.slice 2) (.t 165) (.t 166)⟩,
             ⟨none, none, .store 2 (.t 176) (.t 174)⟩])
            (.seq
             (.reg [⟨some 177, none, .mov (.t 13)⟩,
              ⟨some 10, none, .mov (.t 177)⟩,
              ⟨some 11, none, .mov (.c (.bool false))⟩])
             .ret)))))))
def c62r2 : AC := (.seq
      (.block 2
       (.loop [0, 1, 4, 12, 13]
        c62b3))
      c62r1)
/-- slices.partitionCmpFunc[tracebook/memory.resize] -/
def c62 : AFn := ⟨5, 178, [.t 10, .t 11],
 (.seq
  (.reg [⟨some 10, none, .mov (.c (.int .i64 0))⟩,
   ⟨some 11, none, .mov (.c (.bool false))⟩])
  (.seq
   (.reg [⟨some 14, none, .mov (.t 0)⟩,
    ⟨some 15, none, .mov (.t 1)⟩,
    ⟨some 16, none, .mov (.t 0)⟩,
    ⟨some 17, none, .mov (.t 3)⟩,
    ⟨some 18, none, .mov (.t 0)⟩,
    ⟨some 19, none, .mov (.t 3)⟩,
    ⟨some 20, none, .iaddr (.slice 2) (.t 18) (.t 19)⟩,
    ⟨some 21, none, .load 2 true (.t 20)⟩,
    ⟨some 22, none, .mov (.t 0)⟩,
    ⟨some 23, none, .mov (.t 1)⟩,
    ⟨some 24, none, .iaddr (.slice 2) (.t 22) (.t 23)⟩,
    ⟨some 25, none, .load 2 true (.t 24)⟩,
    ⟨some 26, none, .iaddr (.slice 2) (.t 14) (.t 15)⟩,
    ⟨none, none, .store 2 (.t 26) (.t 21)⟩,
    ⟨some 27, none, .iaddr (.slice 2) (.t 16) (.t 17)⟩,
    ⟨none, none, .store 2 (.t 27) (.t 25)⟩])
   (.seq
    (.reg [⟨some 28, none, .mov (.t 1)⟩,
     ⟨some 29, none, .bin .add (.t 28) (.c (.int .i64 1))⟩,
     ⟨some 30, none, .mov (.t 2)⟩,
     ⟨some 31, none, .bin .sub (.t 30) (.c (.int .i64 1))⟩,
     ⟨some 12, none, .mov (.t 29)⟩,
     ⟨some 13, none, .mov (.t 31)⟩])
    (.seq
     (.block 0
      (.loop [0, 1, 4, 12, 13]
       c62b4))
     c62r2)))), none⟩
def k62 : List (List Nat) := [[0, 1, 4, 12, 13], [0, 1, 4, 12, 13], [0, 1, 4, 12, 13], [0, 1, 4, 12, 13], [0, 1, 4, 12, 13]]
def o62 : List Nat := [1000030, 1000032, 1000040, 1000045, 1000049, 1000051, 1000052, 1000055, 1000056, 1000057, 1000058, 1000059, 1000060, 1000061, 1000062, 1000065, 1000066, 1000069, 1000070, 1000071, 1000072, 3000000]
/-- math/bits.Len32 -/
def c63 : AFn := ⟨1, 19, [.t 2],
 (.seq
  (.reg [⟨some 2, none, .mov (.c (.int .i64 0))⟩])
  (.seq
   (.seq
    (.reg [⟨some 3, none, .mov (.t 0)⟩,
     ⟨some 4, none, .bin .geq (.t 3) (.c (.int .u32 65536))⟩])
    (.cond (.t 4)
     (.seq
      (.reg [⟨some 5, none, .mov (.t 0)⟩,
       ⟨some 6, none, .bin .shr (.t 5) (.c (.int .u64 16))⟩,
       ⟨some 0, none, .mov (.t 6)⟩])
      (.reg [⟨some 2, none, .mov (.c (.int .i64 16))⟩]))
     .skip))
   (.seq
    (.seq
     (.reg [⟨some 7, none, .mov (.t 0)⟩,
      ⟨some 8, none, .bin .geq (.t 7) (.c (.int .u32 256))⟩])
     (.cond (.t 8)
      (.seq
       (.reg [⟨some 9, none, .mov (.t 0)⟩,
        ⟨some 10, none, .bin .shr (.t 9) (.c (.int .u64 8))⟩,
        ⟨some 0, none, .mov (.t 10)⟩])
       (.reg [⟨some 11, none, .mov (.t 2)⟩,
        ⟨some 12, none, .bin .add (.t 11) (.c (.int .i64 8))⟩,
        ⟨some 2, none, .mov (.t 12)⟩]))
      .skip))
    (.seq
     (.reg [⟨some 13, none, .mov (.t 2)⟩,
      ⟨some 14, none, .mov (.t 0)⟩,
      ⟨some 15, none, .conv (.int .u8) (.t 14)⟩,
      ⟨some 16, none, .idxS (.c (.str [0, 1, 2, 2, 3, 3, 3, 3, 4, 4, 4, 4, 4, 4, 4, 4, 5, 5, 5, 5, 5, 5, 5, 5, 5, 5, 5, 5, 5, 5, 5, 5, 6, 6, 6, 6, 6, 6, 6, 6, 6, 6, 6, 6, 6, 6, 6, 6, 6, 6, 6, 6, 6, 6, 6, 6, 6, 6, 6, 6, 6, 6, 6, 6, 7, 7, 7, 7, 7, 7, 7, 7, 7, 7, 7, 7, 7, 7, 7, 7, 7, 7, 7, 7, 7, 7, 7, 7, 7, 7, 7, 7, 7, 7, 7, 7, 7, 7, 7, 7, 7, 7, 7, 7, 7, 7, 7, 7, 7, 7, 7, 7, 7, 7, 7, 7, 7, 7, 7, 7, 7, 7, 7, 7, 7, 7, 7, 7, 8, 8, 8, 8, 8, 8, 8, 8, 8, 8, 8, 8, 8, 8, 8, 8, 8, 8, 8, 8, 8, 8, 8, 8, 8, 8, 8, 8, 8, 8, 8, 8, 8, 8, 8, 8, 8, 8, 8, 8, 8, 8, 8, 8, 8, 8, 8, 8, 8, 8, 8, 8, 8, 8, 8, 8, 8, 8, 8, 8, 8, 8, 8, 8, 8, 8, 8, 8, 8, 8, 8, 8, 8, 8, 8, 8, 8, 8, 8, 8, 8, 8, 8, 8, 8, 8, 8, 8, 8, 8, 8, 8, 8, 8, 8, 8, 8, 8, 8, 8, 8, 8, 8, 8, 8, 8, 8, 8, 8, 8, 8, 8, 8, 8, 8, 8, 8, 8, 8, 8, 8, 8, 8, 8, 8, 8, 8, 8])) (.t 15)⟩,
      ⟨some 17, none, .conv (.int .i64) (.t 16)⟩,
      ⟨some 18, none, .bin .add (.t 13) (.t 17)⟩,
      ⟨some 2, none, .mov (.t 18)⟩])
     .ret)))), none⟩
def k63 : List (List Nat) := []
def o63 : List Nat := [1000030, 1000032, 1000040, 1000045, 1000049, 1000051, 1000052, 1000055, 1000056, 1000057, 1000058, 1000059, 1000060, 1000061, 1000062, 1000065, 1000066, 1000069, 1000070, 1000071, 1000072, 3000000]
/-- math/bits.Len64 -/
def c64 : AFn := ⟨1, 25, [.t 2],
 (.seq
  (.reg [⟨some 2, none, .mov (.c (.int .i64 0))⟩])
  (.seq
   (.seq
    (.reg [⟨some 3, none, .mov (.t 0)⟩,
     ⟨some 4, none, .bin .geq (.t 3) (.c (.int .u64 4294967296))⟩])
    (.cond (.t 4)
     (.seq
      (.reg [⟨some 5, none, .mov (.t 0)⟩,
       ⟨some 6, none, .bin .shr (.t 5) (.c (.int .u64 32))⟩,
       ⟨some 0, none, .mov (.t 6)⟩])
      (.reg [⟨some 2, none, .mov (.c (.int .i64 32))⟩]))
     .skip))
   (.seq
    (.seq
     (.reg [⟨some 7, none, .mov (.t 0)⟩,
      ⟨some 8, none, .bin .geq (.t 7) (.c (.int .u64 65536))⟩])
     (.cond (.t 8)
      (.seq
       (.reg [⟨some 9, none, .mov (.t 0)⟩,
        ⟨some 10, none, .bin .shr (.t 9) (.c (.int .u64 16))⟩,
        ⟨some 0, none, .mov (.t 10)⟩])
       (.reg [⟨some 11, none, .mov (.t 2)⟩,
        ⟨some 12, none, .bin .add (.t 11) (.c (.int .i64 16))⟩,
        ⟨some 2, none, .mov (.t 12)⟩]))
      .skip))
    (.seq
     (.seq
      (.reg [⟨some 13, none, .mov (.t 0)⟩,
       ⟨some 14, none, .bin .geq (.t 13) (.c (.int .u64 256))⟩])
      (.cond (.t 14)
       (.seq
        (.reg [⟨some 15, none, .mov (.t 0)⟩,
         ⟨some 16, none, .bin .shr (.t 15) (.c (.int .u64 8))⟩,
         ⟨some 0, none, .mov (.t 16)⟩])
        (.reg [⟨some 17, none, .mov (.t 2)⟩,
         ⟨some 18, none, .bin .add (.t 17) (.c (.int .i64 8))⟩,
         ⟨some 2, none, .mov (.t 18)⟩]))
       .skip))
     (.seq
      (.reg [⟨some 19, none, .mov (.t 2)⟩,
       ⟨some 20, none, .mov (.t 0)⟩,
       ⟨some 21, none, .conv (.int .u8) (.t 20)⟩,
       ⟨some 22, none, .idxS (.c (.str [0, 1, 2, 2, 3, 3, 3, 3, 4, 4, 4, 4, 4, 4, 4, 4, 5, 5, 5, 5, 5, 5, 5, 5, 5, 5, 5, 5, 5, 5, 5, 5, 6, 6, 6, 6, 6, 6, 6, 6, 6, 6, 6, 6, 6, 6, 6, 6, 6, 6, 6, 6, 6, 6, 6, 6, 6, 6, 6, 6, 6, 6, 6, 6, 7, 7, 7, 7, 7, 7, 7, 7, 7, 7, 7, 7, 7, 7, 7, 7, 7, 7, 7, 7, 7, 7, 7, 7, 7, 7, 7, 7, 7, 7, 7, 7, 7, 7, 7, 7, 7, 7, 7, 7, 7, 7, 7, 7, 7, 7, 7, 7, 7, 7, 7, 7, 7, 7, 7, 7, 7, 7, 7, 7, 7, 7, 7, 7, 8, 8, 8, 8, 8, 8, 8, 8, 8, 8, 8, 8, 8, 8, 8, 8, 8, 8, 8, 8, 8, 8, 8, 8, 8, 8, 8, 8, 8, 8, 8, 8, 8, 8, 8, 8, 8, 8, 8, 8, 8, 8, 8, 8, 8, 8, 8, 8, 8, 8, 8, 8, 8, 8, 8, 8, 8, 8, 8, 8, 8, 8, 8, 8, 8, 8, 8, 8, 8, 8, 8, 8, 8, 8, 8, 8, 8, 8, 8, 8, 8, 8, 8, 8, 8, 8, 8, 8, 8, 8, 8, 8, 8, 8, 8, 8, 8, 8, 8, 8, 8, 8, 8, 8, 8, 8, 8, 8, 8, 8, 8, 8, 8, 8, 8, 8, 8, 8, 8, 8, 8, 8, 8, 8, 8, 8, 8, 8])) (.t 21)⟩,
       ⟨some 23, none, .conv (.int .i64) (.t 22)⟩,
       ⟨some 24, none, .bin .add (.t 19) (.t 23)⟩,
       ⟨some 2, none, .mov (.t 24)⟩])
      .ret))))), none⟩
def k64 : List (List Nat) := []
def o64 : List Nat := [1000030, 1000032, 1000040, 1000045, 1000049, 1000051, 1000052, 1000055, 1000056, 1000057, 1000058, 1000059, 1000060, 1000061, 1000062, 1000065, 1000066, 1000069, 1000070, 1000071, 1000072, 3000000]
def c65b0 : AC := (.seq
       (.seq
        (.reg [⟨some 18, none, .mov (.t 10)⟩,
         ⟨some 19, none, .mov (.t 11)⟩,
         ⟨some 20, none, .bin .neq (.t 18) (.t 19)⟩])
        (.cond (.t 20)
         .skip
         (.exit 0)))
       (.block 1
        (.seq
         (.reg [⟨some 21, none, .mov (.t 10)⟩,
          ⟨some 22, none, .mov (.t 11)⟩,
          ⟨some 23, none, .bin .gtr (.t 21) (.t 22)⟩])
         (.cond (.t 23)
          (.seq
           (.reg [⟨some 24, none, .mov (.t 0)⟩,
            ⟨some 25, none, .mov (.t 2)⟩,
            ⟨some 26, none, .mov (.t 10)⟩,
            ⟨some 27, none, .bin .sub (.t 25) (.t 26)⟩,
            ⟨some 28, none, .mov (.t 2)⟩,
            ⟨some 29, none, .mov (.t 11)⟩,
            ⟨some 30, none, .mov (.t 4)⟩,
            ⟨some 31, none, .callS 71 [(.t 24), (.t 27), (.t 28), (.t 29), (.t 30)]⟩])
           (.reg [⟨some 32, none, .mov (.t 10)⟩,
            ⟨some 33, none, .mov (.t 11)⟩,
            ⟨some 34, none, .bin .sub (.t 32) (.t 33)⟩,
            ⟨some 10, none, .mov (.t 34)⟩]))
          (.seq
           (.reg [⟨some 35, none, .mov (.t 0)⟩,
            ⟨some 36, none, .mov (.t 2)⟩,
            ⟨some 37, none, .mov (.t 10)⟩,
            ⟨some 38, none, .bin .sub (.t 36) (.t 37)⟩,
            ⟨some 39, none, .mov (.t 2)⟩,
            ⟨some 40, none, .mov (.t 11)⟩,
            ⟨some 41, none, .bin .add (.t 39) (.t 40)⟩,
            ⟨some 42, none, .mov (.t 10)⟩,
            ⟨some 43, none, .bin .sub (.t 41) (.t 42)⟩,
            ⟨some 44, none, .mov (.t 10)⟩,
            ⟨some 45, none, .mov (.t 4)⟩,
            ⟨some 46, none, .callS 71 [(.t 35), (.t 38), (.t 43), (.t 44), (.t 45)]⟩])
           (.reg [⟨some 47, none, .mov (.t 11)⟩,
            ⟨some 48, none, .mov (.t 10)⟩,
            ⟨some 49, none, .bin .sub (.t 47) (.t 48)⟩,
            ⟨some 11, none, .mov (.t 49)⟩]))))))
def c65r0 : AC := (.reg [⟨some 50, none, .mov (.t 0)⟩,
     ⟨some 51, none, .mov (.t 2)⟩,
     ⟨some 52, none, .mov (.t 10)⟩,
     ⟨some 53, none, .bin .sub (.t 51) (.t 52)⟩,
     ⟨some 54, none, .mov (.t 2)⟩,
     ⟨some 55, none, .mov (.t 10)⟩,
     ⟨some 56, none, .mov (.t 4)⟩,
     ⟨some 57, none, .callS 71 [(.t 50), (.t 53), (.t 54), (.t 55), (.t 56)]⟩])
/-- slices.rotateCmpFunc[tracebook/api.Block] -/
def c65 : AFn := ⟨5, 58, [],
 (.seq
  (.reg [⟨some 12, none, .mov (.t 2)⟩,
   ⟨some 13, none, .mov (.t 1)⟩,
   ⟨some 14, none, .bin .sub (.t 12) (.t 13)⟩,
   ⟨some 10, none, .mov (.t 14)⟩])
  (.seq
   (.reg [⟨some 15, none, .mov (.t 3)⟩,
    ⟨some 16, none, .mov (.t 2)⟩,
    ⟨some 17, none, .bin .sub (.t 15) (.t 16)⟩,
    ⟨some 11, none, .mov (.t 17)⟩])
   (.seq
    (.block 0
     (.loop [0, 2, 4, 10, 11]
      c65b0))
    c65r0))), none⟩
def k65 : List (List Nat) := [[0, 2, 4, 10, 11]]
def o65 : List Nat := [1000030, 1000032, 1000040, 1000045, 1000049, 1000051, 1000052, 1000055, 1000056, 1000057, 1000058, 1000059, 1000060, 1000061, 1000062, 1000065, 1000066, 1000069, 1000070, 1000071, 1000072, 3000000]
def c66b0 : AC := (.block 1
     (.seq
      (.reg [⟨some 13, none, .mov (.t 10)⟩,
       ⟨some 14, none, .bin .mul (.c (.int .i64 2)) (.t 13)⟩,
       ⟨some 15, none, .bin .add (.t 14) (.c (.int .i64 1))⟩,
       ⟨some 11, none, .mov (.t 15)⟩])
      (.seq
       (.seq
        (.reg [⟨some 16, none, .mov (.t 11)⟩,
         ⟨some 17, none, .mov (.t 2)⟩,
         ⟨some 18, none, .bin .geq (.t 16) (.t 17)⟩])
        (.cond (.t 18)
         (.exit 0)
         .skip))
       (.seq
        (.seq
         (.reg [⟨some 19, none, .mov (.t 11)⟩,
          ⟨some 20, none, .bin .add (.t 19) (.c (.int .i64 1))⟩,
          ⟨some 21, none, .mov (.t 2)⟩,
          ⟨some 22, none, .bin .lss (.t 20) (.t 21)⟩,
          ⟨some 23, none, .mov (.t 22)⟩,
          ⟨some 24, some (23, true), .mov (.t 4)⟩,
          ⟨some 25, some (23, true), .mov (.t 0)⟩,
          ⟨some 26, some (23, true), .mov (.t 3)⟩,
          ⟨some 27, some (23, true), .mov (.t 11)⟩,
          ⟨some 28, some (23, true), .bin .add (.t 26) (.t 27)⟩,
          ⟨some 29, some (23, true), .iaddr (.slice 2) (.t 25) (.t 28)⟩,
          ⟨some 30, some (23, true), .load 2 true (.t 29)⟩,
          ⟨some 31, some (23, true), .mov (.t 0)⟩,
          ⟨some 32, some (23, true), .mov (.t 3)⟩,
          ⟨some 33, some (23, true), .mov (.t 11)⟩,
          ⟨some 34, some (23, true), .bin .add (.t 32) (.t 33)⟩,
          ⟨some 35, some (23, true), .bin .add (.t 34) (.c (.int .i64 1))⟩,
          ⟨some 36, some (23, true), .iaddr (.slice 2) (.t 31) (.t 35)⟩,
          ⟨some 37, some (23, true), .load 2 true (.t 36)⟩,
          ⟨some 38, some (23, true), .calld false (.t 24) [(.t 30), (.t 37)]⟩,
          ⟨some 39, some (23, true), .bin .lss (.t 38) (.c (.int .i64 0))⟩,
          ⟨some 40, none, .pick (.t 23) (.t 39) (.c (.bool false))⟩])
         (.cond (.t 40)
          (.reg [⟨some 41, none, .mov (.t 11)⟩,
           ⟨some 42, none, .bin .add (.t 41) (.c (.int .i64 1))⟩,
           ⟨some 11, none, .mov (.t 42)⟩])
          .skip))
        (.seq
         (.seq
          (.reg [⟨some 43, none, .mov (.t 4)⟩,
           ⟨some 44, none, .mov (.t 0)⟩,
           ⟨some 45, none, .mov (.t 3)⟩,
           ⟨some 46, none, .mov (.t 10)⟩,
           ⟨some 47, none, .bin .add (.t 45) (.t 46)⟩,
           ⟨some 48, none, .iaddr (.slice 2) (.t 44) (.t 47)⟩,
           ⟨some 49, none, .load 2 true (.t 48)⟩,
           ⟨some 50, none, .mov (.t 0)⟩,
           ⟨some 51, none, .mov (.t 3)⟩,
           ⟨some 52, none, .mov (.t 11)⟩,
           ⟨some 53, none, .bin .add (.t 51) (.t 52)⟩,
           ⟨some 54, none, .iaddr (.slice 2) (.t 50) (.t 53)⟩,
           ⟨some 55, none, .load 2 true (.t 54)⟩,
           ⟨some 56, none, .calld false (.t 43) [(.t 49), (.t 55)]⟩,
           ⟨some 57, none, .bin .lss (.t 56) (.c (.int .i64 0))⟩,
           ⟨some 58, none, .un .not (.t 57)⟩])
          (.cond (.t 58)
           .ret
           .skip))
         (.seq
          (.reg [⟨some 59, none, .mov (.t 0)⟩,
           ⟨some 60, none, .mov (.t 3)⟩,
           ⟨some 61, none, .mov (.t 10)⟩,
           ⟨some 62, none, .bin .add (.t 60) (.t 61)⟩,
           ⟨some 63, none, .mov (.t 0)⟩,
           ⟨some 64, none, .mov (.t 3)⟩,
           ⟨some 65, none, .mov (.t 11)⟩,
           ⟨some 66, none, .bin .add (.t 64) (.t 65)⟩,
           ⟨some 67, none, .mov (.t 0)⟩,
           ⟨some 68, none, .mov (.t 3)⟩,
           ⟨some 69, none, .mov (.t 11)⟩,
           ⟨some 70, none, .bin .add (.t 68) (.t 69)⟩,
           ⟨some 71, none, .iaddr (.slice 2) (.t 67) (.t 70)⟩,
           ⟨some 72, none, .load 2 true (.t 71)⟩,
           ⟨some 73, none, .mov (.t 0)⟩,
           ⟨some 74, none, .mov (.t 3)⟩,
           ⟨some 75, none, .mov (.t 10)⟩,
           ⟨some 76, none, .bin .add (.t 74) (.t 75)⟩,
           ⟨some 77, none, .iaddr (.slice 2) (.t 73) (.t 76)⟩,
           ⟨some 78, none, .load 2 true (.t 77)⟩,
           ⟨some 79, none, .iaddr (.slice 2) (.t 59) (.t 62)⟩,
           ⟨none, none, .store 2 (.t 79) (.t 72)⟩,
           ⟨some 80, none, .iaddr (.slice 2) (.t 63) (.t 66)⟩,
           ⟨none, none, .store 2 (.t 80) (.t 78)⟩])
          (.reg [⟨some 81, none, .mov (.t 11)⟩,
           ⟨some 10, none, .mov (.t 81)⟩])))))))
/-- slices.siftDownCmpFunc[tracebook/memory.resize] -/
def c66 : AFn := ⟨5, 82, [],
 (.seq
  (.reg [⟨some 12, none, .mov (.t 1)⟩,
   ⟨some 10, none, .mov (.t 12)⟩])
  (.block 0
   (.loop [0, 2, 3, 4, 10]
    c66b0))), none⟩
def k66 : List (List Nat) := [[0, 2, 3, 4, 10]]
def o66 : List Nat := [1000030, 1000032, 1000040, 1000045, 1000049, 1000051, 1000052, 1000055, 1000056, 1000057, 1000058, 1000059, 1000060, 1000061, 1000062, 1000065, 1000066, 1000069, 1000070, 1000071, 1000072, 3000000]
/-- slices.nextPowerOfTwo -/
def c67 : AFn := ⟨1, 7, [.t 2],
 (.seq
  (.reg [⟨some 2, none, .mov (.c (.int .u64 0))⟩])
  (.seq
   (.reg [⟨some 3, none, .mov (.t 0)⟩,
    ⟨some 4, none, .conv (.int .u64) (.t 3)⟩,
    ⟨some 5, none, .call false 50 [(.t 4)]⟩,
    ⟨some 6, none, .bin .shl (.c (.int .u64 1)) (.t 5)⟩,
    ⟨some 2, none, .mov (.t 6)⟩])
   .ret)), none⟩
def k67 : List (List Nat) := []
def o67 : List Nat := [1000030, 1000032, 1000040, 1000045, 1000049, 1000051, 1000052, 1000055, 1000056, 1000057, 1000058, 1000059, 1000060, 1000061, 1000062, 1000065, 1000066, 1000069, 1000070, 1000071, 1000072, 3000000]
/-- (*slices.xorshift).Next -/
def c68 : AFn := ⟨1, 33, [.t 2],
 (.seq
  (.reg [⟨some 2, none, .mov (.c (.int .u64 0))⟩])
  (.seq
   (.reg [⟨some 3, none, .mov (.t 0)⟩,
    ⟨some 4, none, .nilck (.t 3)⟩,
    ⟨some 5, none, .load 1 false (.t 4)⟩,
    ⟨some 6, none, .mov (.t 0)⟩,
    ⟨some 7, none, .nilck (.t 6)⟩,
    ⟨some 8, none, .load 1 false (.t 7)⟩,
    ⟨some 9, none, .bin .shl (.t 8) (.c (.int .u64 13))⟩,
    ⟨some 10, none, .bin .xor (.t 5) (.t 9)⟩,
    ⟨some 11, none, .nilck (.t 3)⟩,
    ⟨none, none, .store 1 (.t 11) (.t 10)⟩])
   (.seq
    (.reg [⟨some 12, none, .mov (.t 0)⟩,
     ⟨some 13, none, .nilck (.t 12)⟩,
     ⟨some 14, none, .load 1 false (.t 13)⟩,
     ⟨some 15, none, .mov (.t 0)⟩,
     ⟨some 16, none, .nilck (.t 15)⟩,
     ⟨some 17, none, .load 1 false (.t 16)⟩,
     ⟨some 18, none, .bin .shr (.t 17) (.c (.int .u64 7))⟩,
     ⟨some 19, none, .bin .xor (.t 14) (.t 18)⟩,
     ⟨some 20, none, .nilck (.t 12)⟩,
     ⟨none, none, .store 1 (.t 20) (.t 19)⟩])
    (.seq
     (.reg [⟨some 21, none, .mov (.t 0)⟩,
      ⟨some 22, none, .nilck (.t 21)⟩,
      ⟨some 23, none, .load 1 false (.t 22)⟩,
      ⟨some 24, none, .mov (.t 0)⟩,
      ⟨some 25, none, .nilck (.t 24)⟩,
      ⟨some 26, none, .load 1 false (.t 25)⟩,
      ⟨some 27, none, .bin .shl (.t 26) (.c (.int .u64 17))⟩,
      ⟨some 28, none, .bin .xor (.t 23) (.t 27)⟩,
      ⟨some 29, none, .nilck (.t 21)⟩,
      ⟨none, none, .store 1 (.t 29) (.t 28)⟩])
     (.seq
      (.reg [⟨some 30, none, .mov (.t 0)⟩,
       ⟨some 31, none, .nilck (.t 30)⟩,
       ⟨some 32, none, .load 1 false (.t 31)⟩,
       ⟨some 2, none, .mov (.t 32)⟩])
      .ret))))), none⟩
def k68 : List (List Nat) := []
def o68 : List Nat := [1000030, 1000032, 1000040, 1000045, 1000049, 1000051, 1000052, 1000055, 1000056, 1000057, 1000058, 1000059, 1000060, 1000061, 1000062, 1000065, 1000066, 1000069, 1000070, 1000071, 1000072, 3000000]
/-- slices.medianAdjacentCmpFunc[tracebook/memory.resize] -/
def c69 : AFn := ⟨4, 18, [.t 8],
 (.seq
  (.reg [⟨some 8, none, .mov (.c (.int .i64 0))⟩])
  (.seq
   (.reg [⟨some 9, none, .mov (.t 0)⟩,
    ⟨some 10, none, .mov (.t 1)⟩,
    ⟨some 11, none, .bin .sub (.t 10) (.c (.int .i64 1))⟩,
    ⟨some 12, none, .mov (.t 1)⟩,
    ⟨some 13, none, .mov (.t 1)⟩,
    ⟨some 14, none, .bin .add (.t 13) (.c (.int .i64 1))⟩,
    ⟨some 15, none, .mov (.t 2)⟩,
    ⟨some 16, none, .mov (.t 3)⟩,
    ⟨some 17, none, .callS 70 [(.t 9), (.t 11), (.t 12), (.t 14), (.t 15), (.t 16)]⟩,
    ⟨some 8, none, .mov (.t 17)⟩])
   .ret)), none⟩
def k69 : List (List Nat) := []
def o69 : List Nat := [1000030, 1000032, 1000040, 1000045, 1000049, 1000051, 1000052, 1000055, 1000056, 1000057, 1000058, 1000059, 1000060, 1000061, 1000062, 1000065, 1000066, 1000069, 1000070, 1000071, 1000072, 3000000]
/-- slices.medianCmpFunc[tracebook/memory.resize] -/
def c70 : AFn := ⟨6, 41, [.t 12],
 (.seq
  (.reg [⟨some 12, none, .mov (.c (.int .i64 0))⟩])
  (.seq
   (.reg [⟨some 14, none, .mov (.t 0)⟩,
    ⟨some 15, none, .mov (.t 1)⟩,
    ⟨some 16, none, .mov (.t 2)⟩,
    ⟨some 17, none, .mov (.t 4)⟩,
    ⟨some 18, none, .mov (.t 5)⟩,
    ⟨some 19, none, .callS 72 [(.t 14), (.t 15), (.t 16), (.t 17), (.t 18)]⟩,
    ⟨some 13, none, .mov (.t 19)⟩,
    ⟨some 20, none, .ext (.t 13) 0⟩,
    ⟨some 21, none, .ext (.t 13) 1⟩,
    ⟨some 1, none, .mov (.t 20)⟩,
    ⟨some 2, none, .mov (.t 21)⟩])
   (.seq
    (.reg [⟨some 23, none, .mov (.t 0)⟩,
     ⟨some 24, none, .mov (.t 2)⟩,
     ⟨some 25, none, .mov (.t 3)⟩,
     ⟨some 26, none, .mov (.t 4)⟩,
     ⟨some 27, none, .mov (.t 5)⟩,
     ⟨some 28, none, .callS 72 [(.t 23), (.t 24), (.t 25), (.t 26), (.t 27)]⟩,
     ⟨some 22, none, .mov (.t 28)⟩,
     ⟨some 29, none, .ext (.t 22) 0⟩,
     ⟨some 30, none, .ext (.t 22) 1⟩,
     ⟨some 2, none, .mov (.t 29)⟩,
     ⟨some 3, none, .mov (.t 30)⟩])
    (.seq
     (.reg [⟨some 32, none, .mov (.t 0)⟩,
      ⟨some 33, none, .mov (.t 1)⟩,
      ⟨some 34, none, .mov (.t 2)⟩,
      ⟨some 35, none, .mov (.t 4)⟩,
      ⟨some 36, none, .mov (.t 5)⟩,
      ⟨some 37, none, .callS 72 [(.t 32), (.t 33), (.t 34), (.t 35), (.t 36)]⟩,
      ⟨some 31, none, .mov (.t 37)⟩,
      ⟨some 38, none, .ext (.t 31) 0⟩,
      ⟨some 39, none, .ext (.t 31) 1⟩,
      ⟨some 1, none, .mov (.t 38)⟩,
      ⟨some 2, none, .mov (.t 39)⟩])
     (.seq
      (.reg [⟨some 40, none, .mov (.t 2)⟩,
       ⟨some 12, none, .mov (.t 40)⟩])
      .ret))))), none⟩
def k70 : List (List Nat) := []
def o70 : List Nat := [1000030, 1000032, 1000040, 1000045, 1000049, 1000051, 1000052, 1000055, 1000056, 1000057, 1000058, 1000059, 1000060, 1000061, 1000062, 1000065, 1000066, 1000069, 1000070, 1000071, 1000072, 3000000]
def c71b0 : AC := (.seq
     (.seq
      (.reg [⟨some 11, none, .mov (.t 10)⟩,
       ⟨some 12, none, .mov (.t 3)⟩,
       ⟨some 13, none, .bin .lss (.t 11) (.t 12)⟩])
      (.cond (.t 13)
       .skip
       (.exit 0)))
     (.seq
      (.block 1
       (.reg [⟨some 16, none, .mov (.t 0)⟩,
        ⟨some 17, none, .mov (.t 1)⟩,
        ⟨some 18, none, .mov (.t 10)⟩,
        ⟨some 19, none, .bin .add (.t 17) (.t 18)⟩,
        ⟨some 20, none, .mov (.t 0)⟩,
        ⟨some 21, none, .mov (.t 2)⟩,
        ⟨some 22, none, .mov (.t 10)⟩,
        ⟨some 23, none, .bin .add (.t 21) (.t 22)⟩,
        ⟨some 24, none, .mov (.t 0)⟩,
        ⟨some 25, none, .mov (.t 2)⟩,
        ⟨some 26, none, .mov (.t 10)⟩,
        ⟨some 27, none, .bin .add (.t 25) (.t 26)⟩,
        ⟨some 28, none, .iaddr (.slice 7) (.t 24) (.t 27)⟩,
        ⟨some 29, none, .load 7 true (.t 28)⟩,
        ⟨some 30, none, .mov (.t 0)⟩,
        ⟨some 31, none, .mov (.t 1)⟩,
        ⟨some 32, none, .mov (.t 10)⟩,
        ⟨some 33, none, .bin .add (.t 31) (.t 32)⟩,
        ⟨some 34, none, .iaddr (.slice 7) (.t 30) (.t 33)⟩,
        ⟨some 35, none, .load 7 true (.t 34)⟩,
        ⟨some 36, none, .iaddr (.slice 7) (.t 16) (.t 19)⟩,
        ⟨none, none, .store 7 (.t 36) (.t 29)⟩,
        ⟨some 37, none, .iaddr (.slice 7) (.t 20) (.t 23)⟩,
        ⟨none, none, .store 7 (.t 37) (.t 35)⟩]))
      (.reg [⟨some 14, none, .mov (.t 10)⟩,
       ⟨some 15, none, .bin .add (.t 14) (.c (.int .i64 1))⟩,
       ⟨some 10, none, .mov (.t 15)⟩])))
/-- slices.swapRangeCmpFunc[tracebook/api.Block] -/
def c71 : AFn := ⟨5, 38, [],
 (.seq
  (.reg [⟨some 10, none, .mov (.c (.int .i64 0))⟩])
  (.block 0
   (.loop [0, 1, 2, 3, 10]
    c71b0))), none⟩
def k71 : List (List Nat) := [[0, 1, 2, 3, 10]]
def o71 : List Nat := [1000030, 1000032, 1000040, 1000045, 1000049, 1000051, 1000052, 1000055, 1000056, 1000057, 1000058, 1000059, 1000060, 1000061, 1000062, 1000065, 1000066, 1000069, 1000070, 1000071, 1000072, 3000000]
/-- slices.order2CmpFunc[tracebook/memory.resize] -/
def c72 : AFn := ⟨5, 32, [.t 10, .t 11],
 (.seq
  (.reg [⟨some 10, none, .mov (.c (.int .i64 0))⟩,
   ⟨some 11, none, .mov (.c (.int .i64 0))⟩])
  (.seq
   (.seq
    (.reg [⟨some 12, none, .mov (.t 4)⟩,
     ⟨some 13, none, .mov (.t 0)⟩,
     ⟨some 14, none, .mov (.t 2)⟩,
     ⟨some 15, none, .iaddr (.slice 2) (.t 13) (.t 14)⟩,
     ⟨some 16, none, .load 2 true (.t 15)⟩,
     ⟨some 17, none, .mov (.t 0)⟩,
     ⟨some 18, none, .mov (.t 1)⟩,
     ⟨some 19, none, .iaddr (.slice 2) (.t 17) (.t 18)⟩,
     ⟨some 20, none, .load 2 true (.t 19)⟩,
     ⟨some 21, none, .calld false (.t 12) [(.t 16), (.t 20)]⟩,
     ⟨some 22, none, .bin .lss (.t 21) (.c (.int .i64 0))⟩])
    (.cond (.t 22)
     (.seq
      (.reg [⟨some 23, none, .mov (.t 3)⟩,
       ⟨some 24, none, .nilck (.t 23)⟩,
       ⟨some 25, none, .load 1 false (.t 24)⟩,
       ⟨some 26, none, .bin .add (.t 25) (.c (.int .i64 1))⟩,
       ⟨some 27, none, .nilck (.t 23)⟩,
       ⟨none, none, .store 1 (.t 27) (.t 26)⟩])
      (.seq
       (.reg [⟨some 28, none, .mov (.t 2)⟩,
        ⟨some 29, none, .mov (.t 1)⟩,
        ⟨some 10, none, .mov (.t 28)⟩,
        ⟨some 11, none, .mov (.t 29)⟩])
       .ret))
     .skip))
   (.seq
    (.reg [⟨some 30, none, .mov (.t 1)⟩,
     ⟨some 31, none, .mov (.t 2)⟩,
     ⟨some 10, none, .mov (.t 30)⟩,
     ⟨some 11, none, .mov (.t 31)⟩])
    .ret))), none⟩
def k72 : List (List Nat) := []
def o72 : List Nat := [1000030, 1000032, 1000040, 1000045, 1000049, 1000051, 1000052, 1000055, 1000056, 1000057, 1000058, 1000059, 1000060, 1000061, 1000062, 1000065, 1000066, 1000069, 1000070, 1000071, 1000072, 3000000]
def tbl : List (Nat × AFn) := [(3, c3), (4, c4), (5, c5), (6, c6), (7, c7), (8, c8), (9, c9), (10, c10), (11, c11), (12, c12), (13, c13), (14, c14), (15, c15), (16, c16), (17, c17), (18, c18), (19, c19), (20, c20), (21, c21), (22, c22), (23, c23), (24, c24), (25, c25), (26, c26), (27, c27), (28, c28), (29, c29), (30, c30), (31, c31), (32, c32), (33, c33), (34, c34), (35, c35), (36, c36), (37, c37), (38, c38), (39, c39), (40, c40), (41, c41), (42, c42), (43, c43), (44, c44), (45, c45), (46, c46), (47, c47), (48, c48), (49, c49), (50, c50), (51, c51), (52, c52), (53, c53), (54, c54), (55, c55), (56, c56), (57, c57), (58, c58), (59, c59), (60, c60), (61, c61), (62, c62), (63, c63), (64, c64), (65, c65), (66, c66), (67, c67), (68, c68), (69, c69), (70, c70), (71, c71), (72, c72)]
theorem d3 : digFn Try.prog o3 k3 Try.f3 = some c3 := by kernel_rfl
theorem d4 : digFn Try.prog o4 k4 Try.f4 = some c4 := by kernel_rfl
theorem d5 : digFn Try.prog o5 k5 Try.f5 = some c5 := by kernel_rfl
theorem d6 : digFn Try.prog o6 k6 Try.f6 = some c6 := by kernel_rfl
theorem d7 : digFn Try.prog o7 k7 Try.f7 = some c7 := by kernel_rfl
theorem d8 : digFn Try.prog o8 k8 Try.f8 = some c8 := by kernel_rfl
theorem d9 : digFn Try.prog o9 k9 Try.f9 = some c9 := by kernel_rfl
theorem d10 : digFn Try.prog o10 k10 Try.f10 = some c10 := by kernel_rfl
theorem d11 : digFn Try.prog o11 k11 Try.f11 = some c11 := by kernel_rfl
theorem d12 : digFn Try.prog o12 k12 Try.f12 = some c12 := by kernel_rfl
theorem d13 : digFn Try.prog o13 k13 Try.f13 = some c13 := by kernel_rfl
theorem d14 : digFn Try.prog o14 k14 Try.f14 = some c14 := by kernel_rfl
theorem d15 : digFn Try.prog o15 k15 Try.f15 = some c15 := by kernel_rfl
theorem d16 : digFn Try.prog o16 k16 Try.f16 = some c16 := by kernel_rfl
theorem d17 : digFn Try.prog o17 k17 Try.f17 = some c17 := by kernel_rfl
theorem d18 : digFn Try.prog o18 k18 Try.f18 = some c18 := by kernel_rfl
theorem d19 : digFn Try.prog o19 k19 Try.f19 = some c19 := by kernel_rfl
theorem d20 : digFn Try.prog o20 k20 Try.f20 = some c20 := by kernel_rfl
theorem d21 : digFn Try.prog o21 k21 Try.f21 = some c21 := by kernel_rfl
theorem d22 : digFn Try.prog o22 k22 Try.f22 = some c22 := by kernel_rfl
theorem d23 : digFn Try.prog o23 k23 Try.f23 = some c23 := by kernel_rfl
theorem d24 : digFn Try.prog o24 k24 Try.f24 = some c24 := by kernel_rfl
theorem d25 : digFn Try.prog o25 k25 Try.f25 = some c25 := by kernel_rfl
theorem d26 : digFn Try.prog o26 k26 Try.f26 = some c26 := by kernel_rfl
theorem d27 : digFn Try.prog o27 k27 Try.f27 = some c27 := by kernel_rfl
theorem d28 : digFn Try.prog o28 k28 Try.f28 = some c28 := by kernel_rfl
theorem d29 : digFn Try.prog o29 k29 Try.f29 = some c29 := by kernel_rfl
theorem d30 : digFn Try.prog o30 k30 Try.f30 = some c30 := by kernel_rfl
theorem d31 : digFn Try.prog o31 k31 Try.f31 = some c31 := by kernel_rfl
theorem d32 : digFn Try.prog o32 k32 Try.f32 = some c32 := by kernel_rfl
theorem d33 : digFn Try.prog o33 k33 Try.f33 = some c33 := by kernel_rfl
theorem d34 : digFn Try.prog o34 k34 Try.f34 = some c34 := by kernel_rfl
theorem d35 : digFn Try.prog o35 k35 Try.f35 = some c35 := by kernel_rfl
theorem d36 : digFn Try.prog o36 k36 Try.f36 = some c36 := by kernel_rfl
theorem d37 : digFn Try.prog o37 k37 Try.f37 = some c37 := by kernel_rfl
theorem d38 : digFn Try.prog o38 k38 Try.f38 = some c38 := by kernel_rfl
theorem d39 : digFn Try.prog o39 k39 Try.f39 = some c39 := by kernel_rfl
theorem d41 : digFn Try.prog o41 k41 Try.f41 = some c41 := by kernel_rfl
theorem d42 : digFn Try.prog o42 k42 Try.f42 = some c42 := by kernel_rfl
theorem d43 : digFn Try.prog o43 k43 Try.f43 = some c43 := by kernel_rfl
theorem d44 : digFn Try.prog o44 k44 Try.f44 = some c44 := by kernel_rfl
theorem d45 : digFn Try.prog o45 k45 Try.f45 = some c45 := by kernel_rfl
theorem d46 : digFn Try.prog o46 k46 Try.f46 = some c46 := by kernel_rfl
theorem d47 : digFn Try.prog o47 k47 Try.f47 = some c47 := by kernel_rfl
theorem d48 : digFn Try.prog o48 k48 Try.f48 = some c48 := by kernel_rfl
theorem d49 : digFn Try.prog o49 k49 Try.f49 = some c49 := by kernel_rfl
theorem d50 : digFn Try.prog o50 k50 Try.f50 = some c50 := by kernel_rfl
theorem d51 : digFn Try.prog o51 k51 Try.f51 = some c51 := by kernel_rfl
theorem d52 : digFn Try.prog o52 k52 Try.f52 = some c52 := by kernel_rfl
theorem d53 : digFn Try.prog o53 k53 Try.f53 = some c53 := by kernel_rfl
theorem d54 : digFn Try.prog o54 k54 Try.f54 = some c54 := by kernel_rfl
theorem d55 : digFn Try.prog o55 k55 Try.f55 = some c55 := by kernel_rfl
theorem d56 : digFn Try.prog o56 k56 Try.f56 = some c56 := by kernel_rfl
theorem d57 : digFn Try.prog o57 k57 Try.f57 = some c57 := by kernel_rfl
theorem d58 : digFn Try.prog o58 k58 Try.f58 = some c58 := by kernel_rfl
theorem d59 : digFn Try.prog o59 k59 Try.f59 = some c59 := by kernel_rfl
theorem d60 : digFn Try.prog o60 k60 Try.f60 = some c60 := by kernel_rfl
theorem d61 : digFn Try.prog o61 k61 Try.f61 = some c61 := by kernel_rfl
theorem d62 : digFn Try.prog o62 k62 Try.f62 = some c62 := by kernel_rfl
theorem d63 : digFn Try.prog o63 k63 Try.f63 = some c63 := by kernel_rfl
theorem d64 : digFn Try.prog o64 k64 Try.f64 = some c64 := by kernel_rfl
theorem d65 : digFn Try.prog o65 k65 Try.f65 = some c65 := by kernel_rfl
theorem d66 : digFn Try.prog o66 k66 Try.f66 = some c66 := by kernel_rfl
theorem d67 : digFn Try.prog o67 k67 Try.f67 = some c67 := by kernel_rfl
theorem d68 : digFn Try.prog o68 k68 Try.f68 = some c68 := by kernel_rfl
theorem d69 : digFn Try.prog o69 k69 Try.f69 = some c69 := by kernel_rfl
theorem d70 : digFn Try.prog o70 k70 Try.f70 = some c70 := by kernel_rfl
theorem d71 : digFn Try.prog o71 k71 Try.f71 = some c71 := by kernel_rfl
theorem d72 : digFn Try.prog o72 k72 Try.f72 = some c72 := by kernel_rfl
def Dg (f : Nat) : Option AFn := lookP tbl f
theorem D3 : Dg 3 = some c3 := by kernel_rfl
theorem D4 : Dg 4 = some c4 := by kernel_rfl
theorem D5 : Dg 5 = some c5 := by kernel_rfl
theorem D6 : Dg 6 = some c6 := by kernel_rfl
theorem D7 : Dg 7 = some c7 := by kernel_rfl
theorem D8 : Dg 8 = some c8 := by kernel_rfl
theorem D9 : Dg 9 = some c9 := by kernel_rfl
theorem D10 : Dg 10 = some c10 := by kernel_rfl
theorem D11 : Dg 11 = some c11 := by kernel_rfl
theorem D12 : Dg 12 = some c12 := by kernel_rfl
theorem D13 : Dg 13 = some c13 := by kernel_rfl
theorem D14 : Dg 14 = some c14 := by kernel_rfl
theorem D15 : Dg 15 = some c15 := by kernel_rfl
theorem D16 : Dg 16 = some c16 := by kernel_rfl
theorem D17 : Dg 17 = some c17 := by kernel_rfl
theorem D18 : Dg 18 = some c18 := by kernel_rfl
theorem D19 : Dg 19 = some c19 := by kernel_rfl
theorem D20 : Dg 20 = some c20 := by kernel_rfl
theorem D21 : Dg 21 = some c21 := by kernel_rfl
theorem D22 : Dg 22 = some c22 := by kernel_rfl
theorem D23 : Dg 23 = some c23 := by kernel_rfl
theorem D24 : Dg 24 = some c24 := by kernel_rfl
theorem D25 : Dg 25 = some c25 := by kernel_rfl
theorem D26 : Dg 26 = some c26 := by kernel_rfl
theorem D27 : Dg 27 = some c27 := by kernel_rfl
theorem D28 : Dg 28 = some c28 := by kernel_rfl
theorem D29 : Dg 29 = some c29 := by kernel_rfl
theorem D30 : Dg 30 = some c30 := by kernel_rfl
theorem D31 : Dg 31 = some c31 := by kernel_rfl
theorem D32 : Dg 32 = some c32 := by kernel_rfl
theorem D33 : Dg 33 = some c33 := by kernel_rfl
theorem D34 : Dg 34 = some c34 := by kernel_rfl
theorem D35 : Dg 35 = some c35 := by kernel_rfl
theorem D36 : Dg 36 = some c36 := by kernel_rfl
theorem D37 : Dg 37 = some c37 := by kernel_rfl
theorem D38 : Dg 38 = some c38 := by kernel_rfl
theorem D39 : Dg 39 = some c39 := by kernel_rfl
theorem D40 : Dg 40 = some c40 := by kernel_rfl
theorem D41 : Dg 41 = some c41 := by kernel_rfl
theorem D42 : Dg 42 = some c42 := by kernel_rfl
theorem D43 : Dg 43 = some c43 := by kernel_rfl
theorem D44 : Dg 44 = some c44 := by kernel_rfl
theorem D45 : Dg 45 = some c45 := by kernel_rfl
theorem D46 : Dg 46 = some c46 := by kernel_rfl
theorem D47 : Dg 47 = some c47 := by kernel_rfl
theorem D48 : Dg 48 = some c48 := by kernel_rfl
theorem D49 : Dg 49 = some c49 := by kernel_rfl
theorem D50 : Dg 50 = some c50 := by kernel_rfl
theorem D51 : Dg 51 = some c51 := by kernel_rfl
theorem D52 : Dg 52 = some c52 := by kernel_rfl
theorem D53 : Dg 53 = some c53 := by kernel_rfl
theorem D54 : Dg 54 = some c54 := by kernel_rfl
theorem D55 : Dg 55 = some c55 := by kernel_rfl
theorem D56 : Dg 56 = some c56 := by kernel_rfl
theorem D57 : Dg 57 = some c57 := by kernel_rfl
theorem D58 : Dg 58 = some c58 := by kernel_rfl
theorem D59 : Dg 59 = some c59 := by kernel_rfl
theorem D60 : Dg 60 = some c60 := by kernel_rfl
theorem D61 : Dg 61 = some c61 := by kernel_rfl
theorem D62 : Dg 62 = some c62 := by kernel_rfl
theorem D63 : Dg 63 = some c63 := by kernel_rfl
theorem D64 : Dg 64 = some c64 := by kernel_rfl
theorem D65 : Dg 65 = some c65 := by kernel_rfl
theorem D66 : Dg 66 = some c66 := by kernel_rfl
theorem D67 : Dg 67 = some c67 := by kernel_rfl
theorem D68 : Dg 68 = some c68 := by kernel_rfl
theorem D69 : Dg 69 = some c69 := by kernel_rfl
theorem D70 : Dg 70 = some c70 := by kernel_rfl
theorem D71 : Dg 71 = some c71 := by kernel_rfl
theorem D72 : Dg 72 = some c72 := by kernel_rfl
theorem dokL [Bs] : ∀ x ∈ tbl, FnOk Try.prog x.1 x.2 :=
  all_cons (fnok Try.func3 d3) (
  all_cons (fnok Try.func4 d4) (
  all_cons (fnok Try.func5 d5) (
  all_cons (fnok Try.func6 d6) (
  all_cons (fnok Try.func7 d7) (
  all_cons (fnok Try.func8 d8) (
  all_cons (fnok Try.func9 d9) (
  all_cons (fnok Try.func10 d10) (
  all_cons (fnok Try.func11 d11) (
  all_cons (fnok Try.func12 d12) (
  all_cons (fnok Try.func13 d13) (
  all_cons (fnok Try.func14 d14) (
  all_cons (fnok Try.func15 d15) (
  all_cons (fnok Try.func16 d16) (
  all_cons (fnok Try.func17 d17) (
  all_cons (fnok Try.func18 d18) (
  all_cons (fnok Try.func19 d19) (
  all_cons (fnok Try.func20 d20) (
  all_cons (fnok Try.func21 d21) (
  all_cons (fnok Try.func22 d22) (
  all_cons (fnok Try.func23 d23) (
  all_cons (fnok Try.func24 d24) (
  all_cons (fnok Try.func25 d25) (
  all_cons (fnok Try.func26 d26) (
  all_cons (fnok Try.func27 d27) (
  all_cons (fnok Try.func28 d28) (
  all_cons (fnok Try.func29 d29) (
  all_cons (fnok Try.func30 d30) (
  all_cons (fnok Try.func31 d31) (
  all_cons (fnok Try.func32 d32) (
  all_cons (fnok Try.func33 d33) (
  all_cons (fnok Try.func34 d34) (
  all_cons (fnok Try.func35 d35) (
  all_cons (fnok Try.func36 d36) (
  all_cons (fnok Try.func37 d37) (
  all_cons (fnok Try.func38 d38) (
  all_cons (fnok Try.func39 d39) (
  all_cons (show FnOk Try.prog 40 c40 from ext40) (
  all_cons (fnok Try.func41 d41) (
  all_cons (fnok Try.func42 d42) (
  all_cons (fnok Try.func43 d43) (
  all_cons (fnok Try.func44 d44) (
  all_cons (fnok Try.func45 d45) (
  all_cons (fnok Try.func46 d46) (
  all_cons (fnok Try.func47 d47) (
  all_cons (fnok Try.func48 d48) (
  all_cons (fnok Try.func49 d49) (
  all_cons (fnok Try.func50 d50) (
  all_cons (fnok Try.func51 d51) (
  all_cons (fnok Try.func52 d52) (
  all_cons (fnok Try.func53 d53) (
  all_cons (fnok Try.func54 d54) (
  all_cons (fnok Try.func55 d55) (
  all_cons (fnok Try.func56 d56) (
  all_cons (fnok Try.func57 d57) (
  all_cons (fnok Try.func58 d58) (
  all_cons (fnok Try.func59 d59) (
  all_cons (fnok Try.func60 d60) (
  all_cons (fnok Try.func61 d61) (
  all_cons (fnok Try.func62 d62) (
  all_cons (fnok Try.func63 d63) (
  all_cons (fnok Try.func64 d64) (
  all_cons (fnok Try.func65 d65) (
  all_cons (fnok Try.func66 d66) (
  all_cons (fnok Try.func67 d67) (
  all_cons (fnok Try.func68 d68) (
  all_cons (fnok Try.func69 d69) (
  all_cons (fnok Try.func70 d70) (
  all_cons (fnok Try.func71 d71) (
  all_cons (fnok Try.func72 d72) (
  all_nil))))))))))))))))))))))))))))))))))))))))))))))))))))))))))))))))))))))
theorem dok (bs : Bs) : DOk Try.prog Dg := fun f fc h => dokL (f, fc) (lookP_mem h)

end Go.Proofs.Ytalmhggbdfjalaa
