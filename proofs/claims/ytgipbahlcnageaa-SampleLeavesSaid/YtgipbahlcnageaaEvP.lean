/- The code of the functions, as it is read. -/
import Derived.Test.YtgipbahlcnageaaEvLp
import Derived.Test.YtgipbahlcnageaaProg
namespace Go.Proofs.Ytgipbahlcnageaa
open Go
def c3b0 : AC := (.seq
        (.seq
         (.reg [⟨some 12, none, .mov (.t 3)⟩,
          ⟨some 13, none, .mov (.t 0)⟩,
          ⟨some 14, none, .len (.t 13)⟩,
          ⟨some 15, none, .bin .lss (.t 12) (.t 14)⟩])
         (.cond (.t 15)
          .skip
          (.exit 0)))
        (.seq
         (.block 1
          (.seq
           (.reg [⟨some 18, none, .mov (.t 0)⟩,
            ⟨some 19, none, .mov (.t 3)⟩,
            ⟨some 20, none, .iaddr (.slice 10) (.t 18) (.t 19)⟩,
            ⟨some 21, none, .faddr 2 (.t 20)⟩,
            ⟨some 22, none, .load 6 true (.t 21)⟩,
            ⟨some 23, none, .call false 9 [(.t 22)]⟩,
            ⟨some 24, none, .un .not (.t 23)⟩])
           (.cond (.t 24)
            (.seq
             (.reg [⟨some 2, none, .mov (.c (.bool true))⟩])
             .ret)
            .skip)))
         (.reg [⟨some 16, none, .mov (.t 3)⟩,
          ⟨some 17, none, .bin .add (.t 16) (.c (.int .i64 1))⟩,
          ⟨some 3, none, .mov (.t 17)⟩])))
def c3r0 : AC := (.seq
     (.reg [⟨some 25, none, .mov (.t 0)⟩,
      ⟨some 26, none, .call false 11 [(.t 25)]⟩,
      ⟨some 27, none, .mov (.t 0)⟩,
      ⟨some 28, none, .call false 12 [(.t 27)]⟩,
      ⟨some 29, none, .call false 10 [(.t 26), (.t 28)]⟩,
      ⟨some 2, none, .mov (.t 29)⟩])
     .ret)
/-- tracebook/tracebooklaw29.SampleOf -/
def c3 : AFn := ⟨1, 30, [2],
 (.seq
  (.reg [⟨some 2, none, .mov (.c (.bool false))⟩])
  (.seq
   (.seq
    (.reg [⟨some 4, none, .call false 8 []⟩,
     ⟨some 5, none, .un .not (.t 4)⟩,
     ⟨some 6, none, .mov (.t 5)⟩,
     ⟨some 7, some (6, false), .mov (.t 0)⟩,
     ⟨some 8, some (6, false), .len (.t 7)⟩,
     ⟨some 9, some (6, false), .bin .gtr (.t 8) (.c (.int .i64 60))⟩,
     ⟨some 10, none, .pick (.t 6) (.c (.bool true)) (.t 9)⟩])
    (.cond (.t 10)
     (.seq
      (.reg [⟨some 11, none, .call false 8 []⟩,
       ⟨some 2, none, .mov (.t 11)⟩])
      .ret)
     .skip))
   (.seq
    (.seq
     (.reg [⟨some 3, none, .mov (.c (.int .i64 0))⟩])
     (.block 0
      (.loop [0, 3]
       c3b0)))
    c3r0)))⟩
def k3 : List (List Nat) := [[0, 3]]
def o3 : List Nat := []
def c4b0 : AC := (.seq
         (.seq
          (.reg [⟨some 15, none, .mov (.t 4)⟩,
           ⟨some 16, none, .mov (.t 0)⟩,
           ⟨some 17, none, .len (.t 16)⟩,
           ⟨some 18, none, .bin .lss (.t 15) (.t 17)⟩])
          (.cond (.t 18)
           .skip
           (.exit 0)))
         (.seq
          (.block 1
           (.seq
            (.reg [⟨some 21, none, .mov (.t 0)⟩,
             ⟨some 22, none, .mov (.t 4)⟩,
             ⟨some 23, none, .iaddr (.slice 10) (.t 21) (.t 22)⟩,
             ⟨some 24, none, .faddr 2 (.t 23)⟩,
             ⟨some 25, none, .load 6 true (.t 24)⟩,
             ⟨some 5, none, .alloc [(.int .i64 0), (.int .i64 0), (.str []), (.int .i64 0), (.int .i64 0), .nilS]⟩,
             ⟨none, none, .store 6 (.t 5) (.t 25)⟩])
            (.seq
             (.seq
              (.reg [⟨some 26, none, .load 6 true (.t 5)⟩,
               ⟨some 27, none, .call false 9 [(.t 26)]⟩,
               ⟨some 28, none, .un .not (.t 27)⟩,
               ⟨some 29, none, .mov (.t 28)⟩,
               ⟨some 30, some (29, false), .mov (.t 4)⟩,
               ⟨some 31, some (29, false), .bin .gtr (.t 30) (.c (.int .i64 0))⟩,
               ⟨some 32, some (29, false), .mov (.t 31)⟩,
               ⟨some 33, some (32, true), .mov (.t 0)⟩,
               ⟨some 34, some (32, true), .mov (.t 4)⟩,
               ⟨some 35, some (32, true), .iaddr (.slice 10) (.t 33) (.t 34)⟩,
               ⟨some 36, some (32, true), .faddr 8 (.t 35)⟩,
               ⟨some 37, some (32, true), .faddr 0 (.t 36)⟩,
               ⟨some 38, some (32, true), .load 1 false (.t 37)⟩,
               ⟨some 39, some (32, true), .mov (.t 0)⟩,
               ⟨some 40, some (32, true), .mov (.t 4)⟩,
               ⟨some 41, some (32, true), .bin .sub (.t 40) (.c (.int .i64 1))⟩,
               ⟨some 42, some (32, true), .iaddr (.slice 10) (.t 39) (.t 41)⟩,
               ⟨some 43, some (32, true), .faddr 8 (.t 42)⟩,
               ⟨some 44, some (32, true), .faddr 0 (.t 43)⟩,
               ⟨some 45, some (32, true), .load 1 false (.t 44)⟩,
               ⟨some 46, some (32, true), .bin .lss (.t 38) (.t 45)⟩,
               ⟨some 47, some (29, false), .pick (.t 32) (.t 46) (.c (.bool false))⟩,
               ⟨some 48, none, .pick (.t 29) (.c (.bool true)) (.t 47)⟩])
              (.cond (.t 48)
               (.seq
                (.reg [⟨some 2, none, .mov (.c (.bool true))⟩])
                .ret)
               .skip))
             (.seq
              (.reg [⟨some 49, none, .faddr 1 (.t 5)⟩,
               ⟨some 50, none, .load 1 false (.t 49)⟩,
               ⟨some 51, none, .bin .eql (.t 50) (.c (.int .i64 5))⟩])
              (.cond (.t 51)
               (.seq
                (.reg [⟨some 52, none, .mov (.t 3)⟩,
                 ⟨some 53, none, .bin .add (.t 52) (.c (.int .i64 1))⟩,
                 ⟨some 3, none, .mov (.t 53)⟩])
                (.seq
                 (.reg [⟨some 54, none, .mov (.t 0)⟩,
                  ⟨some 55, none, .mov (.t 4)⟩,
                  ⟨some 56, none, .iaddr (.slice 10) (.t 54) (.t 55)⟩,
                  ⟨some 57, none, .faddr 0 (.t 56)⟩,
                  ⟨some 58, none, .faddr 0 (.t 57)⟩,
                  ⟨some 59, none, .load 1 false (.t 58)⟩,
                  ⟨some 60, none, .faddr 3 (.t 5)⟩,
                  ⟨some 61, none, .load 1 false (.t 60)⟩,
                  ⟨some 62, none, .faddr 5 (.t 5)⟩,
                  ⟨some 63, none, .load 1 false (.t 62)⟩,
                  ⟨some 64, none, .build [(.int .i64 0), (.int .i64 0), (.int .i64 0), .nilS] [(0, 1, (.t 59)), (2, 1, (.t 61)), (3, 1, (.t 63))]⟩,
                  ⟨some 65, none, .bslice false 4 [(.int .i64 0), (.int .i64 0), (.int .i64 0), .nilS] 1 [(0, (.t 64))]⟩,
                  ⟨some 66, none, .call false 13 [(.t 65)]⟩,
                  ⟨some 67, none, .bin .neq (.t 66) (.c (.int .i64 0))⟩])
                 (.cond (.t 67)
                  (.seq
                   (.reg [⟨some 2, none, .mov (.c (.bool true))⟩])
                   .ret)
                  .skip)))
               .skip)))))
          (.reg [⟨some 19, none, .mov (.t 4)⟩,
           ⟨some 20, none, .bin .add (.t 19) (.c (.int .i64 1))⟩,
           ⟨some 4, none, .mov (.t 20)⟩])))
def c4r0 : AC := (.seq
      (.reg [⟨some 68, none, .mov (.t 0)⟩,
       ⟨some 69, none, .call false 11 [(.t 68)]⟩,
       ⟨some 6, none, .mov (.t 69)⟩])
      (.seq
       (.reg [⟨some 70, none, .mov (.t 6)⟩,
        ⟨some 71, none, .len (.t 70)⟩,
        ⟨some 72, none, .mov (.t 3)⟩,
        ⟨some 73, none, .bin .eql (.t 71) (.t 72)⟩,
        ⟨some 74, none, .mov (.t 73)⟩,
        ⟨some 75, some (74, true), .mov (.t 6)⟩,
        ⟨some 76, some (74, true), .call false 13 [(.t 75)]⟩,
        ⟨some 77, some (74, true), .bin .eql (.t 76) (.c (.int .i64 0))⟩,
        ⟨some 78, none, .pick (.t 74) (.t 77) (.c (.bool false))⟩,
        ⟨some 2, none, .mov (.t 78)⟩])
       .ret))
/-- tracebook/tracebooklaw29.SampleOrdered -/
def c4 : AFn := ⟨1, 79, [2],
 (.seq
  (.reg [⟨some 2, none, .mov (.c (.bool false))⟩])
  (.seq
   (.seq
    (.reg [⟨some 7, none, .call false 8 []⟩,
     ⟨some 8, none, .un .not (.t 7)⟩,
     ⟨some 9, none, .mov (.t 8)⟩,
     ⟨some 10, some (9, false), .mov (.t 0)⟩,
     ⟨some 11, some (9, false), .len (.t 10)⟩,
     ⟨some 12, some (9, false), .bin .gtr (.t 11) (.c (.int .i64 60))⟩,
     ⟨some 13, none, .pick (.t 9) (.c (.bool true)) (.t 12)⟩])
    (.cond (.t 13)
     (.seq
      (.reg [⟨some 14, none, .call false 8 []⟩,
       ⟨some 2, none, .mov (.t 14)⟩])
      .ret)
     .skip))
   (.seq
    (.reg [⟨some 3, none, .mov (.c (.int .i64 0))⟩])
    (.seq
     (.seq
      (.reg [⟨some 4, none, .mov (.c (.int .i64 0))⟩])
      (.block 0
       (.loop [0, 3, 4]
        c4b0)))
     c4r0))))⟩
def k4 : List (List Nat) := [[0, 3, 4]]
def o4 : List Nat := []
/-- tracebook/tracebooklaw29.SampleChecks -/
def c5 : AFn := ⟨3, 50, [6],
 (.seq
  (.reg [⟨some 4, none, .box (.t 1)⟩,
   ⟨some 6, none, .mov (.c (.bool false))⟩])
  (.seq
   (.seq
    (.reg [⟨some 7, none, .call false 8 []⟩,
     ⟨some 8, none, .un .not (.t 7)⟩,
     ⟨some 9, none, .mov (.t 8)⟩,
     ⟨some 10, some (9, false), .mov (.t 0)⟩,
     ⟨some 11, some (9, false), .call false 14 [(.t 10)]⟩,
     ⟨some 12, some (9, false), .un .not (.t 11)⟩,
     ⟨some 13, none, .pick (.t 9) (.c (.bool true)) (.t 12)⟩,
     ⟨some 14, none, .mov (.t 13)⟩,
     ⟨some 15, some (14, false), .mov (.t 2)⟩,
     ⟨some 16, some (14, false), .lenS (.t 15)⟩,
     ⟨some 17, some (14, false), .bin .gtr (.t 16) (.c (.int .i64 200))⟩,
     ⟨some 18, none, .pick (.t 14) (.c (.bool true)) (.t 17)⟩])
    (.cond (.t 18)
     (.seq
      (.reg [⟨some 19, none, .call false 8 []⟩,
       ⟨some 6, none, .mov (.t 19)⟩])
      .ret)
     .skip))
   (.seq
    (.reg [⟨some 20, none, .mov (.t 0)⟩,
     ⟨some 21, none, .call false 13 [(.t 20)]⟩,
     ⟨some 22, none, .mov (.t 0)⟩,
     ⟨some 23, none, .call false 15 [(.t 22)]⟩,
     ⟨some 24, none, .bin .eql (.t 21) (.t 23)⟩,
     ⟨some 25, none, .mov (.t 24)⟩,
     ⟨some 26, some (25, true), .mov (.t 0)⟩,
     ⟨some 27, some (25, true), .load 2 true (.t 4)⟩,
     ⟨some 28, some (25, true), .call false 16 [(.t 26), (.t 27)]⟩,
     ⟨some 29, some (25, true), .mov (.t 0)⟩,
     ⟨some 30, some (25, true), .load 2 true (.t 4)⟩,
     ⟨some 31, some (25, true), .call false 17 [(.t 29), (.t 30)]⟩,
     ⟨some 32, some (25, true), .call false 10 [(.t 28), (.t 31)]⟩,
     ⟨some 33, none, .pick (.t 25) (.t 32) (.c (.bool false))⟩,
     ⟨some 34, none, .mov (.t 33)⟩,
     ⟨some 35, some (34, true), .mov (.t 0)⟩,
     ⟨some 36, some (34, true), .mov (.t 2)⟩,
     ⟨some 37, some (34, true), .call false 18 [(.t 35), (.t 36)]⟩,
     ⟨some 38, some (34, true), .mov (.t 0)⟩,
     ⟨some 39, some (34, true), .mov (.t 2)⟩,
     ⟨some 40, some (34, true), .call false 19 [(.t 38), (.t 39)]⟩,
     ⟨some 41, some (34, true), .bin .eql (.t 37) (.t 40)⟩,
     ⟨some 42, none, .pick (.t 34) (.t 41) (.c (.bool false))⟩,
     ⟨some 43, none, .mov (.t 42)⟩,
     ⟨some 44, some (43, true), .mov (.t 0)⟩,
     ⟨some 45, some (43, true), .call false 20 [(.t 44)]⟩,
     ⟨some 46, some (43, true), .mov (.t 0)⟩,
     ⟨some 47, some (43, true), .call false 21 [(.t 46)]⟩,
     ⟨some 48, some (43, true), .bin .eql (.t 45) (.t 47)⟩,
     ⟨some 49, none, .pick (.t 43) (.t 48) (.c (.bool false))⟩,
     ⟨some 6, none, .mov (.t 49)⟩])
    .ret)))⟩
def k5 : List (List Nat) := []
def o5 : List Nat := []
/-- tracebook/tracebooklaw29.SampleDivides -/
def c6 : AFn := ⟨2, 70, [4],
 (.seq
  (.reg [⟨some 3, none, .box (.t 1)⟩,
   ⟨some 4, none, .mov (.c (.bool false))⟩])
  (.seq
   (.seq
    (.reg [⟨some 8, none, .call false 8 []⟩,
     ⟨some 9, none, .un .not (.t 8)⟩,
     ⟨some 10, none, .mov (.t 9)⟩,
     ⟨some 11, some (10, false), .mov (.t 0)⟩,
     ⟨some 12, some (10, false), .call false 14 [(.t 11)]⟩,
     ⟨some 13, some (10, false), .un .not (.t 12)⟩,
     ⟨some 14, none, .pick (.t 10) (.c (.bool true)) (.t 13)⟩,
     ⟨some 15, none, .mov (.t 14)⟩,
     ⟨some 16, some (15, false), .iaddr (.array 3 1) (.t 3) (.c (.int .i64 0))⟩,
     ⟨some 17, some (15, false), .load 1 false (.t 16)⟩,
     ⟨some 18, some (15, false), .iaddr (.array 3 1) (.t 3) (.c (.int .i64 1))⟩,
     ⟨some 19, some (15, false), .load 1 false (.t 18)⟩,
     ⟨some 20, some (15, false), .bin .gtr (.t 17) (.t 19)⟩,
     ⟨some 21, none, .pick (.t 15) (.c (.bool true)) (.t 20)⟩,
     ⟨some 22, none, .mov (.t 21)⟩,
     ⟨some 23, some (22, false), .iaddr (.array 3 1) (.t 3) (.c (.int .i64 1))⟩,
     ⟨some 24, some (22, false), .load 1 false (.t 23)⟩,
     ⟨some 25, some (22, false), .iaddr (.array 3 1) (.t 3) (.c (.int .i64 2))⟩,
     ⟨some 26, some (22, false), .load 1 false (.t 25)⟩,
     ⟨some 27, some (22, false), .bin .gtr (.t 24) (.t 26)⟩,
     ⟨some 28, none, .pick (.t 22) (.c (.bool true)) (.t 27)⟩])
    (.cond (.t 28)
     (.seq
      (.reg [⟨some 29, none, .call false 8 []⟩,
       ⟨some 4, none, .mov (.t 29)⟩])
      .ret)
     .skip))
   (.seq
    (.reg [⟨some 30, none, .mov (.t 0)⟩,
     ⟨some 31, none, .iaddr (.array 3 1) (.t 3) (.c (.int .i64 0))⟩,
     ⟨some 32, none, .load 1 false (.t 31)⟩,
     ⟨some 33, none, .iaddr (.array 3 1) (.t 3) (.c (.int .i64 1))⟩,
     ⟨some 34, none, .load 1 false (.t 33)⟩,
     ⟨some 35, none, .build [(.int .i64 0), (.int .i64 0)] [(0, 1, (.t 32)), (1, 1, (.t 34))]⟩,
     ⟨some 36, none, .call false 16 [(.t 30), (.t 35)]⟩,
     ⟨some 5, none, .mov (.t 36)⟩])
    (.seq
     (.reg [⟨some 37, none, .mov (.t 0)⟩,
      ⟨some 38, none, .iaddr (.array 3 1) (.t 3) (.c (.int .i64 1))⟩,
      ⟨some 39, none, .load 1 false (.t 38)⟩,
      ⟨some 40, none, .iaddr (.array 3 1) (.t 3) (.c (.int .i64 2))⟩,
      ⟨some 41, none, .load 1 false (.t 40)⟩,
      ⟨some 42, none, .build [(.int .i64 0), (.int .i64 0)] [(0, 1, (.t 39)), (1, 1, (.t 41))]⟩,
      ⟨some 43, none, .call false 16 [(.t 37), (.t 42)]⟩,
      ⟨some 6, none, .mov (.t 43)⟩])
     (.seq
      (.reg [⟨some 44, none, .mov (.t 0)⟩,
       ⟨some 45, none, .iaddr (.array 3 1) (.t 3) (.c (.int .i64 0))⟩,
       ⟨some 46, none, .load 1 false (.t 45)⟩,
       ⟨some 47, none, .iaddr (.array 3 1) (.t 3) (.c (.int .i64 2))⟩,
       ⟨some 48, none, .load 1 false (.t 47)⟩,
       ⟨some 49, none, .build [(.int .i64 0), (.int .i64 0)] [(0, 1, (.t 46)), (1, 1, (.t 48))]⟩,
       ⟨some 50, none, .call false 16 [(.t 44), (.t 49)]⟩,
       ⟨some 7, none, .mov (.t 50)⟩])
      (.seq
       (.reg [⟨some 51, none, .mov (.t 5)⟩,
        ⟨some 52, none, .len (.t 51)⟩,
        ⟨some 53, none, .mov (.t 6)⟩,
        ⟨some 54, none, .len (.t 53)⟩,
        ⟨some 55, none, .bin .add (.t 52) (.t 54)⟩,
        ⟨some 56, none, .mov (.t 7)⟩,
        ⟨some 57, none, .len (.t 56)⟩,
        ⟨some 58, none, .bin .eql (.t 55) (.t 57)⟩,
        ⟨some 59, none, .mov (.t 58)⟩,
        ⟨some 60, some (59, true), .mov (.t 5)⟩,
        ⟨some 61, some (59, true), .call false 20 [(.t 60)]⟩,
        ⟨some 62, some (59, true), .mov (.t 6)⟩,
        ⟨some 63, some (59, true), .call false 20 [(.t 62)]⟩,
        ⟨some 64, some (59, true), .bin .add (.t 61) (.t 63)⟩,
        ⟨some 65, some (59, true), .min [(.c (.int .i64 1000000000000000)), (.t 64)]⟩,
        ⟨some 66, some (59, true), .mov (.t 7)⟩,
        ⟨some 67, some (59, true), .call false 20 [(.t 66)]⟩,
        ⟨some 68, some (59, true), .bin .eql (.t 65) (.t 67)⟩,
        ⟨some 69, none, .pick (.t 59) (.t 68) (.c (.bool false))⟩,
        ⟨some 4, none, .mov (.t 69)⟩])
       .ret))))))⟩
def k6 : List (List Nat) := []
def o6 : List Nat := []
def c7b0 : AC := (.seq
                      (.seq
                       (.reg [⟨some 49, none, .mov (.t 10)⟩,
                        ⟨some 50, none, .mov (.t 4)⟩,
                        ⟨some 51, none, .len (.t 50)⟩,
                        ⟨some 52, none, .bin .lss (.t 49) (.t 51)⟩])
                       (.cond (.t 52)
                        .skip
                        (.exit 2)))
                      (.seq
                       (.block 3
                        (.reg [⟨some 55, none, .mov (.t 9)⟩,
                         ⟨some 56, none, .mov (.t 55)⟩,
                         ⟨some 57, some (56, false), .mov (.t 4)⟩,
                         ⟨some 58, some (56, false), .mov (.t 10)⟩,
                         ⟨some 59, some (56, false), .iaddr (.slice 1) (.t 57) (.t 58)⟩,
                         ⟨some 60, some (56, false), .load 1 false (.t 59)⟩,
                         ⟨some 61, some (56, false), .mov (.t 8)⟩,
                         ⟨some 62, some (56, false), .bin .eql (.t 60) (.t 61)⟩,
                         ⟨some 63, none, .pick (.t 56) (.c (.bool true)) (.t 62)⟩,
                         ⟨some 9, none, .mov (.t 63)⟩]))
                       (.reg [⟨some 53, none, .mov (.t 10)⟩,
                        ⟨some 54, none, .bin .add (.t 53) (.c (.int .i64 1))⟩,
                        ⟨some 10, none, .mov (.t 54)⟩])))
def c7r0 : AC := (.seq
                   (.reg [⟨some 64, none, .mov (.t 9)⟩,
                    ⟨some 65, none, .un .not (.t 64)⟩])
                   (.cond (.t 65)
                    (.seq
                     (.reg [⟨some 66, none, .mov (.t 4)⟩,
                      ⟨some 67, none, .mov (.t 8)⟩,
                      ⟨some 68, none, .bslice false 1 [(.str [])] 1 [(0, (.t 67))]⟩,
                      ⟨some 69, none, .append 1 16 (.t 66) (.t 68)⟩,
                      ⟨some 4, none, .mov (.t 69)⟩])
                     (.reg [⟨some 70, none, .mov (.t 3)⟩,
                      ⟨some 71, none, .mov (.t 0)⟩,
                      ⟨some 72, none, .mov (.t 8)⟩,
                      ⟨some 73, none, .call false 18 [(.t 71), (.t 72)]⟩,
                      ⟨some 74, none, .bin .add (.t 70) (.t 73)⟩,
                      ⟨some 3, none, .mov (.t 74)⟩]))
                    .skip))
def c7b1 : AC := (.seq
           (.seq
            (.reg [⟨some 19, none, .mov (.t 6)⟩,
             ⟨some 20, none, .mov (.t 0)⟩,
             ⟨some 21, none, .len (.t 20)⟩,
             ⟨some 22, none, .bin .lss (.t 19) (.t 21)⟩])
            (.cond (.t 22)
             .skip
             (.exit 0)))
           (.seq
            (.block 1
             (.seq
              (.reg [⟨some 25, none, .mov (.t 0)⟩,
               ⟨some 26, none, .mov (.t 6)⟩,
               ⟨some 27, none, .iaddr (.slice 4) (.t 25) (.t 26)⟩,
               ⟨some 28, none, .faddr 3 (.t 27)⟩,
               ⟨some 29, none, .load 1 false (.t 28)⟩,
               ⟨some 30, none, .len (.t 29)⟩,
               ⟨some 7, none, .mov (.t 30)⟩])
              (.seq
               (.seq
                (.reg [⟨some 31, none, .mov (.t 7)⟩,
                 ⟨some 32, none, .bin .eql (.t 31) (.c (.int .i64 0))⟩])
                (.cond (.t 32)
                 (.seq
                  (.reg [⟨some 33, none, .mov (.t 5)⟩,
                   ⟨some 34, none, .mov (.t 0)⟩,
                   ⟨some 35, none, .mov (.t 6)⟩,
                   ⟨some 36, none, .iaddr (.slice 4) (.t 34) (.t 35)⟩,
                   ⟨some 37, none, .load 4 true (.t 36)⟩,
                   ⟨some 38, none, .bslice false 4 [(.int .i64 0), (.int .i64 0), (.int .i64 0), .nilS] 1 [(0, (.t 37))]⟩,
                   ⟨some 39, none, .append 4 48 (.t 33) (.t 38)⟩,
                   ⟨some 5, none, .mov (.t 39)⟩])
                  (.exit 1))
                 .skip))
               (.seq
                (.reg [⟨some 40, none, .mov (.t 0)⟩,
                 ⟨some 41, none, .mov (.t 6)⟩,
                 ⟨some 42, none, .iaddr (.slice 4) (.t 40) (.t 41)⟩,
                 ⟨some 43, none, .faddr 3 (.t 42)⟩,
                 ⟨some 44, none, .load 1 false (.t 43)⟩,
                 ⟨some 45, none, .mov (.t 7)⟩,
                 ⟨some 46, none, .bin .sub (.t 45) (.c (.int .i64 1))⟩,
                 ⟨some 47, none, .iaddr (.slice 1) (.t 44) (.t 46)⟩,
                 ⟨some 48, none, .load 1 false (.t 47)⟩,
                 ⟨some 8, none, .mov (.t 48)⟩])
                (.seq
                 (.reg [⟨some 9, none, .mov (.c (.bool false))⟩])
                 (.seq
                  (.seq
                   (.reg [⟨some 10, none, .mov (.c (.int .i64 0))⟩])
                   (.block 2
                    (.loop [0, 3, 4, 5, 6, 8, 9, 10]
                     c7b0)))
                  c7r0))))))
            (.reg [⟨some 23, none, .mov (.t 6)⟩,
             ⟨some 24, none, .bin .add (.t 23) (.c (.int .i64 1))⟩,
             ⟨some 6, none, .mov (.t 24)⟩])))
def c7r1 : AC := (.seq
        (.reg [⟨some 75, none, .mov (.t 3)⟩,
         ⟨some 76, none, .mov (.t 5)⟩,
         ⟨some 77, none, .call false 20 [(.t 76)]⟩,
         ⟨some 78, none, .bin .add (.t 75) (.t 77)⟩,
         ⟨some 79, none, .min [(.c (.int .i64 1000000000000000)), (.t 78)]⟩,
         ⟨some 80, none, .mov (.t 0)⟩,
         ⟨some 81, none, .call false 20 [(.t 80)]⟩,
         ⟨some 82, none, .bin .eql (.t 79) (.t 81)⟩,
         ⟨some 2, none, .mov (.t 82)⟩])
        .ret)
/-- tracebook/tracebooklaw29.SampleLeaves -/
def c7 : AFn := ⟨1, 83, [2],
 (.seq
  (.reg [⟨some 2, none, .mov (.c (.bool false))⟩])
  (.seq
   (.seq
    (.reg [⟨some 11, none, .call false 8 []⟩,
     ⟨some 12, none, .un .not (.t 11)⟩,
     ⟨some 13, none, .mov (.t 12)⟩,
     ⟨some 14, some (13, false), .mov (.t 0)⟩,
     ⟨some 15, some (13, false), .call false 14 [(.t 14)]⟩,
     ⟨some 16, some (13, false), .un .not (.t 15)⟩,
     ⟨some 17, none, .pick (.t 13) (.c (.bool true)) (.t 16)⟩])
    (.cond (.t 17)
     (.seq
      (.reg [⟨some 18, none, .call false 8 []⟩,
       ⟨some 2, none, .mov (.t 18)⟩])
      .ret)
     .skip))
   (.seq
    (.reg [⟨some 3, none, .mov (.c (.int .i64 0))⟩])
    (.seq
     (.reg [⟨some 4, none, .nilv 1⟩])
     (.seq
      (.reg [⟨some 5, none, .nilv 4⟩])
      (.seq
       (.seq
        (.reg [⟨some 6, none, .mov (.c (.int .i64 0))⟩])
        (.block 0
         (.loop [0, 3, 4, 5, 6]
          c7b1)))
       c7r1))))))⟩
def k7 : List (List Nat) := [[0, 3, 4, 5, 6], [0, 3, 4, 5, 6, 8, 9, 10]]
def o7 : List Nat := []
/-- tracebook/tracebooklaw29.awake -/
def c8 : AFn := ⟨0, 70, [0],
 (.seq
  (.reg [⟨some 0, none, .mov (.c (.bool false))⟩])
  (.seq
   (.reg [⟨some 3, none, .bslice false 1 [(.str [])] 2 [(0, (.c (.str [109, 97, 105, 110]))), (1, (.c (.str [102])))]⟩,
    ⟨some 4, none, .build [(.int .i64 0), (.int .i64 0), (.int .i64 0), .nilS] [(1, 1, (.c (.int .i64 1))), (2, 1, (.c (.int .i64 3))), (3, 1, (.t 3))]⟩,
    ⟨some 5, none, .bslice false 1 [(.str [])] 1 [(0, (.c (.str [109, 97, 105, 110])))]⟩,
    ⟨some 6, none, .build [(.int .i64 0), (.int .i64 0), (.int .i64 0), .nilS] [(1, 1, (.c (.int .i64 2))), (2, 1, (.c (.int .i64 2))), (3, 1, (.t 5))]⟩,
    ⟨some 7, none, .build [(.int .i64 0), (.int .i64 0), (.int .i64 0), .nilS] [(1, 1, (.c (.int .i64 2))), (2, 1, (.c (.int .i64 4)))]⟩,
    ⟨some 8, none, .bslice false 4 [(.int .i64 0), (.int .i64 0), (.int .i64 0), .nilS] 3 [(0, (.t 4)), (1, (.t 6)), (2, (.t 7))]⟩,
    ⟨some 1, none, .mov (.t 8)⟩])
   (.seq
    (.reg [⟨some 9, none, .build [(.int .i64 0), (.int .i64 0)] [(0, 1, (.c (.int .i64 6)))]⟩,
     ⟨some 10, none, .build [(.int .i64 0), (.int .i64 0), (.str []), (.int .i64 0), (.int .i64 0), .nilS] [(1, 1, (.c (.int .i64 5))), (3, 1, (.c (.int .i64 9)))]⟩,
     ⟨some 11, none, .build [(.int .i64 0), (.int .i64 0)] [(0, 1, (.c (.int .i64 (-3)))), (1, 1, (.c (.int .i64 5)))]⟩,
     ⟨some 12, none, .build [(.int .i64 0), (.int .i64 0), (.int .i64 0), (.int .i64 0), (.str []), (.int .i64 0), (.int .i64 0), .nilS, (.int .i64 0), (.int .i64 0)] [(0, 2, (.t 9)), (2, 6, (.t 10)), (8, 2, (.t 11))]⟩,
     ⟨some 13, none, .build [(.int .i64 0), (.int .i64 0), (.str []), (.int .i64 0), (.int .i64 0), .nilS] [(1, 1, (.c (.int .i64 2)))]⟩,
     ⟨some 14, none, .build [(.int .i64 0), (.int .i64 0), (.int .i64 0), (.int .i64 0), (.str []), (.int .i64 0), (.int .i64 0), .nilS, (.int .i64 0), (.int .i64 0)] [(2, 6, (.t 13))]⟩,
     ⟨some 15, none, .bslice false 10 [(.int .i64 0), (.int .i64 0), (.int .i64 0), (.int .i64 0), (.str []), (.int .i64 0), (.int .i64 0), .nilS, (.int .i64 0), (.int .i64 0)] 2 [(0, (.t 12)), (1, (.t 14))]⟩,
     ⟨some 16, none, .call false 11 [(.t 15)]⟩,
     ⟨some 2, none, .mov (.t 16)⟩])
    (.seq
     (.reg [⟨some 17, none, .mov (.t 1)⟩,
      ⟨some 18, none, .call false 18 [(.t 17), (.c (.str [109, 97, 105, 110]))]⟩,
      ⟨some 19, none, .bin .eql (.t 18) (.c (.int .i64 2))⟩,
      ⟨some 20, none, .mov (.t 19)⟩,
      ⟨some 21, some (20, true), .mov (.t 1)⟩,
      ⟨some 22, some (20, true), .call false 20 [(.t 21)]⟩,
      ⟨some 23, some (20, true), .bin .eql (.t 22) (.c (.int .i64 9))⟩,
      ⟨some 24, none, .pick (.t 20) (.t 23) (.c (.bool false))⟩,
      ⟨some 25, none, .mov (.t 24)⟩,
      ⟨some 26, some (25, true), .mov (.t 1)⟩,
      ⟨some 27, some (25, true), .call false 13 [(.t 26)]⟩,
      ⟨some 28, some (25, true), .bin .eql (.t 27) (.c (.int .i64 0))⟩,
      ⟨some 29, none, .pick (.t 25) (.t 28) (.c (.bool false))⟩,
      ⟨some 30, none, .mov (.t 29)⟩,
      ⟨some 31, some (30, true), .mov (.t 1)⟩,
      ⟨some 32, some (30, true), .build [(.int .i64 0), (.int .i64 0)] [(0, 1, (.c (.int .i64 2))), (1, 1, (.c (.int .i64 3)))]⟩,
      ⟨some 33, some (30, true), .call false 16 [(.t 31), (.t 32)]⟩,
      ⟨some 34, some (30, true), .len (.t 33)⟩,
      ⟨some 35, some (30, true), .bin .eql (.t 34) (.c (.int .i64 2))⟩,
      ⟨some 36, none, .pick (.t 30) (.t 35) (.c (.bool false))⟩,
      ⟨some 37, none, .mov (.t 36)⟩,
      ⟨some 38, some (37, true), .mov (.t 2)⟩,
      ⟨some 39, some (37, true), .len (.t 38)⟩,
      ⟨some 40, some (37, true), .bin .eql (.t 39) (.c (.int .i64 1))⟩,
      ⟨some 41, none, .pick (.t 37) (.t 40) (.c (.bool false))⟩,
      ⟨some 42, none, .mov (.t 41)⟩,
      ⟨some 43, some (42, true), .mov (.t 2)⟩,
      ⟨some 44, some (42, true), .iaddr (.slice 4) (.t 43) (.c (.int .i64 0))⟩,
      ⟨some 45, some (42, true), .faddr 0 (.t 44)⟩,
      ⟨some 46, some (42, true), .load 1 false (.t 45)⟩,
      ⟨some 47, some (42, true), .bin .eql (.t 46) (.c (.int .i64 6))⟩,
      ⟨some 48, none, .pick (.t 42) (.t 47) (.c (.bool false))⟩,
      ⟨some 49, none, .mov (.t 48)⟩,
      ⟨some 50, some (49, true), .mov (.t 2)⟩,
      ⟨some 51, some (49, true), .iaddr (.slice 4) (.t 50) (.c (.int .i64 0))⟩,
      ⟨some 52, some (49, true), .faddr 1 (.t 51)⟩,
      ⟨some 53, some (49, true), .load 1 false (.t 52)⟩,
      ⟨some 54, some (49, true), .bin .eql (.t 53) (.c (.int .i64 0))⟩,
      ⟨some 55, none, .pick (.t 49) (.t 54) (.c (.bool false))⟩,
      ⟨some 56, none, .mov (.t 55)⟩,
      ⟨some 57, some (56, true), .mov (.t 2)⟩,
      ⟨some 58, some (56, true), .iaddr (.slice 4) (.t 57) (.c (.int .i64 0))⟩,
      ⟨some 59, some (56, true), .faddr 2 (.t 58)⟩,
      ⟨some 60, some (56, true), .load 1 false (.t 59)⟩,
      ⟨some 61, some (56, true), .bin .eql (.t 60) (.c (.int .i64 9))⟩,
      ⟨some 62, none, .pick (.t 56) (.t 61) (.c (.bool false))⟩,
      ⟨some 63, none, .mov (.t 62)⟩,
      ⟨some 64, some (63, true), .build [(.int .i64 0), (.int .i64 0), (.int .i64 0), .nilS] [(1, 1, (.c (.int .i64 5))), (2, 1, (.c (.int .i64 1)))]⟩,
      ⟨some 65, some (63, true), .build [(.int .i64 0), (.int .i64 0), (.int .i64 0), .nilS] [(1, 1, (.c (.int .i64 4))), (2, 1, (.c (.int .i64 1)))]⟩,
      ⟨some 66, some (63, true), .bslice false 4 [(.int .i64 0), (.int .i64 0), (.int .i64 0), .nilS] 2 [(0, (.t 64)), (1, (.t 65))]⟩,
      ⟨some 67, some (63, true), .call false 13 [(.t 66)]⟩,
      ⟨some 68, some (63, true), .bin .eql (.t 67) (.c (.int .i64 11))⟩,
      ⟨some 69, none, .pick (.t 63) (.t 68) (.c (.bool false))⟩,
      ⟨some 0, none, .mov (.t 69)⟩])
     .ret))))⟩
def k8 : List (List Nat) := []
def o8 : List Nat := []
def c9b0 : AC := (.seq
        (.seq
         (.reg [⟨some 14, none, .mov (.t 3)⟩,
          ⟨some 15, none, .faddr 5 (.t 1)⟩,
          ⟨some 16, none, .load 1 false (.t 15)⟩,
          ⟨some 17, none, .len (.t 16)⟩,
          ⟨some 18, none, .bin .lss (.t 14) (.t 17)⟩])
         (.cond (.t 18)
          .skip
          (.exit 0)))
        (.seq
         (.block 1
          (.seq
           (.reg [⟨some 21, none, .faddr 5 (.t 1)⟩,
            ⟨some 22, none, .load 1 false (.t 21)⟩,
            ⟨some 23, none, .mov (.t 3)⟩,
            ⟨some 24, none, .iaddr (.slice 1) (.t 22) (.t 23)⟩,
            ⟨some 25, none, .load 1 false (.t 24)⟩,
            ⟨some 26, none, .lenS (.t 25)⟩,
            ⟨some 27, none, .bin .gtr (.t 26) (.c (.int .i64 200))⟩])
           (.cond (.t 27)
            (.seq
             (.reg [⟨some 2, none, .mov (.c (.bool false))⟩])
             .ret)
            .skip)))
         (.reg [⟨some 19, none, .mov (.t 3)⟩,
          ⟨some 20, none, .bin .add (.t 19) (.c (.int .i64 1))⟩,
          ⟨some 3, none, .mov (.t 20)⟩])))
/-- tracebook/tracebookref07.Small -/
def c9 : AFn := ⟨1, 28, [2],
 (.seq
  (.reg [⟨some 1, none, .box (.t 0)⟩,
   ⟨some 2, none, .mov (.c (.bool false))⟩])
  (.seq
   (.seq
    (.reg [⟨some 4, none, .faddr 2 (.t 1)⟩,
     ⟨some 5, none, .load 1 false (.t 4)⟩,
     ⟨some 6, none, .lenS (.t 5)⟩,
     ⟨some 7, none, .bin .gtr (.t 6) (.c (.int .i64 200))⟩,
     ⟨some 8, none, .mov (.t 7)⟩,
     ⟨some 9, some (8, false), .faddr 5 (.t 1)⟩,
     ⟨some 10, some (8, false), .load 1 false (.t 9)⟩,
     ⟨some 11, some (8, false), .len (.t 10)⟩,
     ⟨some 12, some (8, false), .bin .gtr (.t 11) (.c (.int .i64 60))⟩,
     ⟨some 13, none, .pick (.t 8) (.c (.bool true)) (.t 12)⟩])
    (.cond (.t 13)
     (.seq
      (.reg [⟨some 2, none, .mov (.c (.bool false))⟩])
      .ret)
     .skip))
   (.seq
    (.seq
     (.reg [⟨some 3, none, .mov (.c (.int .i64 0))⟩])
     (.block 0
      (.loop [1, 3]
       c9b0)))
    (.seq
     (.reg [⟨some 2, none, .mov (.c (.bool true))⟩])
     .ret))))⟩
def k9 : List (List Nat) := [[1, 3]]
def o9 : List Nat := []
def c10b0 : AC := (.seq
        (.seq
         (.reg [⟨some 11, none, .mov (.t 5)⟩,
          ⟨some 12, none, .mov (.t 0)⟩,
          ⟨some 13, none, .len (.t 12)⟩,
          ⟨some 14, none, .bin .lss (.t 11) (.t 13)⟩])
         (.cond (.t 14)
          .skip
          (.exit 0)))
        (.seq
         (.block 1
          (.seq
           (.reg [⟨some 17, none, .mov (.t 0)⟩,
            ⟨some 18, none, .mov (.t 5)⟩,
            ⟨some 19, none, .iaddr (.slice 4) (.t 17) (.t 18)⟩,
            ⟨some 20, none, .faddr 0 (.t 19)⟩,
            ⟨some 21, none, .load 1 false (.t 20)⟩,
            ⟨some 22, none, .mov (.t 1)⟩,
            ⟨some 23, none, .mov (.t 5)⟩,
            ⟨some 24, none, .iaddr (.slice 4) (.t 22) (.t 23)⟩,
            ⟨some 25, none, .faddr 0 (.t 24)⟩,
            ⟨some 26, none, .load 1 false (.t 25)⟩,
            ⟨some 27, none, .bin .neq (.t 21) (.t 26)⟩,
            ⟨some 28, none, .mov (.t 27)⟩,
            ⟨some 29, some (28, false), .mov (.t 0)⟩,
            ⟨some 30, some (28, false), .mov (.t 5)⟩,
            ⟨some 31, some (28, false), .iaddr (.slice 4) (.t 29) (.t 30)⟩,
            ⟨some 32, some (28, false), .faddr 1 (.t 31)⟩,
            ⟨some 33, some (28, false), .load 1 false (.t 32)⟩,
            ⟨some 34, some (28, false), .mov (.t 1)⟩,
            ⟨some 35, some (28, false), .mov (.t 5)⟩,
            ⟨some 36, some (28, false), .iaddr (.slice 4) (.t 34) (.t 35)⟩,
            ⟨some 37, some (28, false), .faddr 1 (.t 36)⟩,
            ⟨some 38, some (28, false), .load 1 false (.t 37)⟩,
            ⟨some 39, some (28, false), .bin .neq (.t 33) (.t 38)⟩,
            ⟨some 40, none, .pick (.t 28) (.c (.bool true)) (.t 39)⟩,
            ⟨some 41, none, .mov (.t 40)⟩,
            ⟨some 42, some (41, false), .mov (.t 0)⟩,
            ⟨some 43, some (41, false), .mov (.t 5)⟩,
            ⟨some 44, some (41, false), .iaddr (.slice 4) (.t 42) (.t 43)⟩,
            ⟨some 45, some (41, false), .faddr 2 (.t 44)⟩,
            ⟨some 46, some (41, false), .load 1 false (.t 45)⟩,
            ⟨some 47, some (41, false), .mov (.t 1)⟩,
            ⟨some 48, some (41, false), .mov (.t 5)⟩,
            ⟨some 49, some (41, false), .iaddr (.slice 4) (.t 47) (.t 48)⟩,
            ⟨some 50, some (41, false), .faddr 2 (.t 49)⟩,
            ⟨some 51, some (41, false), .load 1 false (.t 50)⟩,
            ⟨some 52, some (41, false), .bin .neq (.t 46) (.t 51)⟩,
            ⟨some 53, none, .pick (.t 41) (.c (.bool true)) (.t 52)⟩,
            ⟨some 54, none, .mov (.t 53)⟩,
            ⟨some 55, some (54, false), .mov (.t 0)⟩,
            ⟨some 56, some (54, false), .mov (.t 5)⟩,
            ⟨some 57, some (54, false), .iaddr (.slice 4) (.t 55) (.t 56)⟩,
            ⟨some 58, some (54, false), .faddr 3 (.t 57)⟩,
            ⟨some 59, some (54, false), .load 1 false (.t 58)⟩,
            ⟨some 60, some (54, false), .mov (.t 1)⟩,
            ⟨some 61, some (54, false), .mov (.t 5)⟩,
            ⟨some 62, some (54, false), .iaddr (.slice 4) (.t 60) (.t 61)⟩,
            ⟨some 63, some (54, false), .faddr 3 (.t 62)⟩,
            ⟨some 64, some (54, false), .load 1 false (.t 63)⟩,
            ⟨some 65, some (54, false), .call false 22 [(.t 59), (.t 64)]⟩,
            ⟨some 66, some (54, false), .un .not (.t 65)⟩,
            ⟨some 67, none, .pick (.t 54) (.c (.bool true)) (.t 66)⟩])
           (.cond (.t 67)
            (.seq
             (.reg [⟨some 4, none, .mov (.c (.bool false))⟩])
             .ret)
            .skip)))
         (.reg [⟨some 15, none, .mov (.t 5)⟩,
          ⟨some 16, none, .bin .add (.t 15) (.c (.int .i64 1))⟩,
          ⟨some 5, none, .mov (.t 16)⟩])))
/-- tracebook/tracebookref29.Same -/
def c10 : AFn := ⟨2, 68, [4],
 (.seq
  (.reg [⟨some 4, none, .mov (.c (.bool false))⟩])
  (.seq
   (.seq
    (.reg [⟨some 6, none, .mov (.t 0)⟩,
     ⟨some 7, none, .len (.t 6)⟩,
     ⟨some 8, none, .mov (.t 1)⟩,
     ⟨some 9, none, .len (.t 8)⟩,
     ⟨some 10, none, .bin .neq (.t 7) (.t 9)⟩])
    (.cond (.t 10)
     (.seq
      (.reg [⟨some 4, none, .mov (.c (.bool false))⟩])
      .ret)
     .skip))
   (.seq
    (.seq
     (.reg [⟨some 5, none, .mov (.c (.int .i64 0))⟩])
     (.block 0
      (.loop [0, 1, 5]
       c10b0)))
    (.seq
     (.reg [⟨some 4, none, .mov (.c (.bool true))⟩])
     .ret))))⟩
def k10 : List (List Nat) := [[0, 1, 5]]
def o10 : List Nat := []
def c11b0 : AC := (.seq
        (.reg [⟨some 9, none, .bin .lss (.t 8) (.t 7)⟩])
        (.seq
         (.cond (.t 9)
          .skip
          (.exit 0))
         (.seq
          (.block 1
           (.seq
            (.reg [⟨some 10, none, .iaddr (.slice 10) (.t 6) (.t 8)⟩,
             ⟨some 11, none, .load 10 true (.t 10)⟩,
             ⟨some 5, none, .alloc [(.int .i64 0), (.int .i64 0), (.int .i64 0), (.int .i64 0), (.str []), (.int .i64 0), (.int .i64 0), .nilS, (.int .i64 0), (.int .i64 0)]⟩,
             ⟨none, none, .store 10 (.t 5) (.t 11)⟩])
            (.seq
             (.reg [⟨some 12, none, .faddr 2 (.t 5)⟩,
              ⟨some 13, none, .faddr 1 (.t 12)⟩,
              ⟨some 14, none, .load 1 false (.t 13)⟩,
              ⟨some 15, none, .bin .eql (.t 14) (.c (.int .i64 5))⟩])
             (.cond (.t 15)
              (.reg [⟨some 16, none, .mov (.t 3)⟩,
               ⟨some 17, none, .faddr 0 (.t 5)⟩,
               ⟨some 18, none, .faddr 0 (.t 17)⟩,
               ⟨some 19, none, .load 1 false (.t 18)⟩,
               ⟨some 20, none, .load 10 true (.t 5)⟩,
               ⟨some 21, none, .call false 23 [(.t 20)]⟩,
               ⟨some 22, none, .faddr 2 (.t 5)⟩,
               ⟨some 23, none, .faddr 3 (.t 22)⟩,
               ⟨some 24, none, .load 1 false (.t 23)⟩,
               ⟨some 25, none, .faddr 2 (.t 5)⟩,
               ⟨some 26, none, .faddr 5 (.t 25)⟩,
               ⟨some 27, none, .load 1 false (.t 26)⟩,
               ⟨some 28, none, .build [(.int .i64 0), (.int .i64 0), (.int .i64 0), .nilS] [(0, 1, (.t 19)), (1, 1, (.t 21)), (2, 1, (.t 24)), (3, 1, (.t 27))]⟩,
               ⟨some 29, none, .bslice false 4 [(.int .i64 0), (.int .i64 0), (.int .i64 0), .nilS] 1 [(0, (.t 28))]⟩,
               ⟨some 30, none, .append 4 48 (.t 16) (.t 29)⟩,
               ⟨some 3, none, .mov (.t 30)⟩])
              .skip))))
          (.reg [⟨some 31, none, .bin .add (.t 8) (.c (.int .i64 1))⟩,
           ⟨some 8, none, .mov (.t 31)⟩]))))
/-- tracebook/sample.Of -/
def c11 : AFn := ⟨1, 33, [2],
 (.seq
  (.reg [⟨some 2, none, .nilv 4⟩])
  (.seq
   (.reg [⟨some 3, none, .nilv 4⟩])
   (.seq
    (.seq
     (.reg [⟨some 6, none, .mov (.t 0)⟩,
      ⟨some 7, none, .len (.t 6)⟩,
      ⟨some 8, none, .mov (.c (.int .i64 0))⟩])
     (.block 0
      (.loop [3, 6, 7, 8]
       c11b0)))
    (.seq
     (.reg [⟨some 32, none, .mov (.t 3)⟩,
      ⟨some 2, none, .mov (.t 32)⟩])
     .ret))))⟩
def k11 : List (List Nat) := [[3, 6, 7, 8]]
def o11 : List Nat := []
def c12b0 : AC := (.seq
        (.seq
         (.reg [⟨some 5, none, .mov (.t 4)⟩,
          ⟨some 6, none, .mov (.t 0)⟩,
          ⟨some 7, none, .len (.t 6)⟩,
          ⟨some 8, none, .bin .lss (.t 5) (.t 7)⟩])
         (.cond (.t 8)
          .skip
          (.exit 0)))
        (.seq
         (.block 1
          (.seq
           (.reg [⟨some 11, none, .mov (.t 0)⟩,
            ⟨some 12, none, .mov (.t 4)⟩,
            ⟨some 13, none, .iaddr (.slice 10) (.t 11) (.t 12)⟩,
            ⟨some 14, none, .faddr 2 (.t 13)⟩,
            ⟨some 15, none, .faddr 1 (.t 14)⟩,
            ⟨some 16, none, .load 1 false (.t 15)⟩,
            ⟨some 17, none, .bin .eql (.t 16) (.c (.int .i64 5))⟩])
           (.cond (.t 17)
            (.reg [⟨some 18, none, .mov (.t 3)⟩,
             ⟨some 19, none, .mov (.t 0)⟩,
             ⟨some 20, none, .mov (.t 4)⟩,
             ⟨some 21, none, .iaddr (.slice 10) (.t 19) (.t 20)⟩,
             ⟨some 22, none, .faddr 0 (.t 21)⟩,
             ⟨some 23, none, .faddr 0 (.t 22)⟩,
             ⟨some 24, none, .load 1 false (.t 23)⟩,
             ⟨some 25, none, .mov (.t 0)⟩,
             ⟨some 26, none, .mov (.t 4)⟩,
             ⟨some 27, none, .iaddr (.slice 10) (.t 25) (.t 26)⟩,
             ⟨some 28, none, .load 10 true (.t 27)⟩,
             ⟨some 29, none, .call false 24 [(.t 28)]⟩,
             ⟨some 30, none, .mov (.t 0)⟩,
             ⟨some 31, none, .mov (.t 4)⟩,
             ⟨some 32, none, .iaddr (.slice 10) (.t 30) (.t 31)⟩,
             ⟨some 33, none, .faddr 2 (.t 32)⟩,
             ⟨some 34, none, .faddr 3 (.t 33)⟩,
             ⟨some 35, none, .load 1 false (.t 34)⟩,
             ⟨some 36, none, .mov (.t 0)⟩,
             ⟨some 37, none, .mov (.t 4)⟩,
             ⟨some 38, none, .iaddr (.slice 10) (.t 36) (.t 37)⟩,
             ⟨some 39, none, .faddr 2 (.t 38)⟩,
             ⟨some 40, none, .faddr 5 (.t 39)⟩,
             ⟨some 41, none, .load 1 false (.t 40)⟩,
             ⟨some 42, none, .build [(.int .i64 0), (.int .i64 0), (.int .i64 0), .nilS] [(0, 1, (.t 24)), (1, 1, (.t 29)), (2, 1, (.t 35)), (3, 1, (.t 41))]⟩,
             ⟨some 43, none, .bslice false 4 [(.int .i64 0), (.int .i64 0), (.int .i64 0), .nilS] 1 [(0, (.t 42))]⟩,
             ⟨some 44, none, .append 4 48 (.t 18) (.t 43)⟩,
             ⟨some 3, none, .mov (.t 44)⟩])
            .skip)))
         (.reg [⟨some 9, none, .mov (.t 4)⟩,
          ⟨some 10, none, .bin .add (.t 9) (.c (.int .i64 1))⟩,
          ⟨some 4, none, .mov (.t 10)⟩])))
/-- tracebook/tracebookref29.Of -/
def c12 : AFn := ⟨1, 46, [2],
 (.seq
  (.reg [⟨some 2, none, .nilv 4⟩])
  (.seq
   (.reg [⟨some 3, none, .nilv 4⟩])
   (.seq
    (.seq
     (.reg [⟨some 4, none, .mov (.c (.int .i64 0))⟩])
     (.block 0
      (.loop [0, 3, 4]
       c12b0)))
    (.seq
     (.reg [⟨some 45, none, .mov (.t 3)⟩,
      ⟨some 2, none, .mov (.t 45)⟩])
     .ret))))⟩
def k12 : List (List Nat) := [[0, 3, 4]]
def o12 : List Nat := []
def c13b0 : AC := (.seq
       (.reg [⟨some 9, none, .bin .lss (.t 8) (.t 7)⟩])
       (.seq
        (.cond (.t 9)
         .skip
         (.exit 0))
        (.seq
         (.block 1
          (.seq
           (.reg [⟨some 10, none, .mov (.t 8)⟩,
            ⟨some 11, none, .iaddr (.slice 4) (.t 6) (.t 8)⟩,
            ⟨some 12, none, .load 4 true (.t 11)⟩,
            ⟨some 4, none, .alloc [(.int .i64 0), (.int .i64 0), (.int .i64 0), .nilS]⟩,
            ⟨some 3, none, .mov (.t 10)⟩,
            ⟨none, none, .store 4 (.t 4) (.t 12)⟩])
           (.seq
            (.seq
             (.reg [⟨some 13, none, .load 4 true (.t 4)⟩,
              ⟨some 14, none, .call false 25 [(.t 13)]⟩,
              ⟨some 15, none, .un .not (.t 14)⟩])
             (.cond (.t 15)
              (.seq
               (.reg [⟨some 2, none, .mov (.c (.int .i64 2))⟩])
               .ret)
              .skip))
            (.seq
             (.seq
              (.reg [⟨some 16, none, .faddr 3 (.t 4)⟩,
               ⟨some 17, none, .load 1 false (.t 16)⟩,
               ⟨some 18, none, .call false 26 [(.t 17)]⟩,
               ⟨some 5, none, .mov (.t 18)⟩])
              (.seq
               (.reg [⟨some 19, none, .mov (.t 5)⟩,
                ⟨some 20, none, .bin .neq (.t 19) (.c (.int .i64 0))⟩])
               (.cond (.t 20)
                (.seq
                 (.reg [⟨some 21, none, .mov (.t 5)⟩,
                  ⟨some 2, none, .mov (.t 21)⟩])
                 .ret)
                .skip)))
             (.seq
              (.reg [⟨some 22, none, .mov (.t 3)⟩,
               ⟨some 23, none, .bin .gtr (.t 22) (.c (.int .i64 0))⟩,
               ⟨some 24, none, .mov (.t 23)⟩,
               ⟨some 25, some (24, true), .faddr 1 (.t 4)⟩,
               ⟨some 26, some (24, true), .load 1 false (.t 25)⟩,
               ⟨some 27, some (24, true), .mov (.t 0)⟩,
               ⟨some 28, some (24, true), .mov (.t 3)⟩,
               ⟨some 29, some (24, true), .bin .sub (.t 28) (.c (.int .i64 1))⟩,
               ⟨some 30, some (24, true), .iaddr (.slice 4) (.t 27) (.t 29)⟩,
               ⟨some 31, some (24, true), .faddr 1 (.t 30)⟩,
               ⟨some 32, some (24, true), .load 1 false (.t 31)⟩,
               ⟨some 33, some (24, true), .bin .lss (.t 26) (.t 32)⟩,
               ⟨some 34, none, .pick (.t 24) (.t 33) (.c (.bool false))⟩])
              (.cond (.t 34)
               (.seq
                (.reg [⟨some 2, none, .mov (.c (.int .i64 11))⟩])
                .ret)
               .skip))))))
         (.reg [⟨some 35, none, .bin .add (.t 8) (.c (.int .i64 1))⟩,
          ⟨some 8, none, .mov (.t 35)⟩]))))
/-- tracebook/sample.Check -/
def c13 : AFn := ⟨1, 36, [2],
 (.seq
  (.reg [⟨some 2, none, .mov (.c (.int .i64 0))⟩])
  (.seq
   (.seq
    (.reg [⟨some 6, none, .mov (.t 0)⟩,
     ⟨some 7, none, .len (.t 6)⟩,
     ⟨some 8, none, .mov (.c (.int .i64 0))⟩])
    (.block 0
     (.loop [0, 6, 7, 8]
      c13b0)))
   (.seq
    (.reg [⟨some 2, none, .mov (.c (.int .i64 0))⟩])
    .ret)))⟩
def k13 : List (List Nat) := [[0, 6, 7, 8]]
def o13 : List Nat := []
def c14b0 : AC := (.seq
        (.seq
         (.reg [⟨some 7, none, .mov (.t 3)⟩,
          ⟨some 8, none, .mov (.t 0)⟩,
          ⟨some 9, none, .len (.t 8)⟩,
          ⟨some 10, none, .bin .lss (.t 7) (.t 9)⟩])
         (.cond (.t 10)
          .skip
          (.exit 0)))
        (.seq
         (.block 1
          (.seq
           (.reg [⟨some 13, none, .mov (.t 0)⟩,
            ⟨some 14, none, .mov (.t 3)⟩,
            ⟨some 15, none, .iaddr (.slice 4) (.t 13) (.t 14)⟩,
            ⟨some 16, none, .faddr 3 (.t 15)⟩,
            ⟨some 17, none, .load 1 false (.t 16)⟩,
            ⟨some 18, none, .build [(.int .i64 0), (.int .i64 0), (.str []), (.int .i64 0), (.int .i64 0), .nilS] [(5, 1, (.t 17))]⟩,
            ⟨some 19, none, .call false 9 [(.t 18)]⟩,
            ⟨some 20, none, .un .not (.t 19)⟩])
           (.cond (.t 20)
            (.seq
             (.reg [⟨some 2, none, .mov (.c (.bool false))⟩])
             .ret)
            .skip)))
         (.reg [⟨some 11, none, .mov (.t 3)⟩,
          ⟨some 12, none, .bin .add (.t 11) (.c (.int .i64 1))⟩,
          ⟨some 3, none, .mov (.t 12)⟩])))
/-- tracebook/tracebookref29.Few -/
def c14 : AFn := ⟨1, 21, [2],
 (.seq
  (.reg [⟨some 2, none, .mov (.c (.bool false))⟩])
  (.seq
   (.seq
    (.reg [⟨some 4, none, .mov (.t 0)⟩,
     ⟨some 5, none, .len (.t 4)⟩,
     ⟨some 6, none, .bin .gtr (.t 5) (.c (.int .i64 40))⟩])
    (.cond (.t 6)
     (.seq
      (.reg [⟨some 2, none, .mov (.c (.bool false))⟩])
      .ret)
     .skip))
   (.seq
    (.seq
     (.reg [⟨some 3, none, .mov (.c (.int .i64 0))⟩])
     (.block 0
      (.loop [0, 3]
       c14b0)))
    (.seq
     (.reg [⟨some 2, none, .mov (.c (.bool true))⟩])
     .ret))))⟩
def k14 : List (List Nat) := [[0, 3]]
def o14 : List Nat := []
def c15b0 : AC := (.seq
       (.seq
        (.reg [⟨some 5, none, .mov (.t 3)⟩,
         ⟨some 6, none, .mov (.t 0)⟩,
         ⟨some 7, none, .len (.t 6)⟩,
         ⟨some 8, none, .bin .lss (.t 5) (.t 7)⟩])
        (.cond (.t 8)
         .skip
         (.exit 0)))
       (.seq
        (.block 1
         (.seq
          (.seq
           (.reg [⟨some 11, none, .mov (.t 0)⟩,
            ⟨some 12, none, .mov (.t 3)⟩,
            ⟨some 13, none, .iaddr (.slice 4) (.t 11) (.t 12)⟩,
            ⟨some 14, none, .load 4 true (.t 13)⟩,
            ⟨some 15, none, .call false 27 [(.t 14)]⟩,
            ⟨some 16, none, .un .not (.t 15)⟩])
           (.cond (.t 16)
            (.seq
             (.reg [⟨some 2, none, .mov (.c (.int .i64 2))⟩])
             .ret)
            .skip))
          (.seq
           (.reg [⟨some 17, none, .mov (.t 0)⟩,
            ⟨some 18, none, .mov (.t 3)⟩,
            ⟨some 19, none, .iaddr (.slice 4) (.t 17) (.t 18)⟩,
            ⟨some 20, none, .faddr 3 (.t 19)⟩,
            ⟨some 21, none, .load 1 false (.t 20)⟩,
            ⟨some 22, none, .call false 28 [(.t 21)]⟩,
            ⟨some 4, none, .mov (.t 22)⟩])
           (.seq
            (.seq
             (.reg [⟨some 23, none, .mov (.t 4)⟩,
              ⟨some 24, none, .bin .neq (.t 23) (.c (.int .i64 0))⟩])
             (.cond (.t 24)
              (.seq
               (.reg [⟨some 25, none, .mov (.t 4)⟩,
                ⟨some 2, none, .mov (.t 25)⟩])
               .ret)
              .skip))
            (.seq
             (.reg [⟨some 26, none, .mov (.t 3)⟩,
              ⟨some 27, none, .bin .gtr (.t 26) (.c (.int .i64 0))⟩,
              ⟨some 28, none, .mov (.t 27)⟩,
              ⟨some 29, some (28, true), .mov (.t 0)⟩,
              ⟨some 30, some (28, true), .mov (.t 3)⟩,
              ⟨some 31, some (28, true), .iaddr (.slice 4) (.t 29) (.t 30)⟩,
              ⟨some 32, some (28, true), .faddr 1 (.t 31)⟩,
              ⟨some 33, some (28, true), .load 1 false (.t 32)⟩,
              ⟨some 34, some (28, true), .mov (.t 0)⟩,
              ⟨some 35, some (28, true), .mov (.t 3)⟩,
              ⟨some 36, some (28, true), .bin .sub (.t 35) (.c (.int .i64 1))⟩,
              ⟨some 37, some (28, true), .iaddr (.slice 4) (.t 34) (.t 36)⟩,
              ⟨some 38, some (28, true), .faddr 1 (.t 37)⟩,
              ⟨some 39, some (28, true), .load 1 false (.t 38)⟩,
              ⟨some 40, some (28, true), .bin .lss (.t 33) (.t 39)⟩,
              ⟨some 41, none, .pick (.t 28) (.t 40) (.c (.bool false))⟩])
             (.cond (.t 41)
              (.seq
               (.reg [⟨some 2, none, .mov (.c (.int .i64 11))⟩])
               .ret)
              .skip))))))
        (.reg [⟨some 9, none, .mov (.t 3)⟩,
         ⟨some 10, none, .bin .add (.t 9) (.c (.int .i64 1))⟩,
         ⟨some 3, none, .mov (.t 10)⟩])))
/-- tracebook/tracebookref29.Check -/
def c15 : AFn := ⟨1, 42, [2],
 (.seq
  (.reg [⟨some 2, none, .mov (.c (.int .i64 0))⟩])
  (.seq
   (.seq
    (.reg [⟨some 3, none, .mov (.c (.int .i64 0))⟩])
    (.block 0
     (.loop [0, 3]
      c15b0)))
   (.seq
    (.reg [⟨some 2, none, .mov (.c (.int .i64 0))⟩])
    .ret)))⟩
def k15 : List (List Nat) := [[0, 3]]
def o15 : List Nat := []
def c16b0 : AC := (.seq
        (.reg [⟨some 11, none, .bin .lss (.t 10) (.t 9)⟩])
        (.seq
         (.cond (.t 11)
          .skip
          (.exit 0))
         (.seq
          (.block 1
           (.seq
            (.reg [⟨some 12, none, .iaddr (.slice 4) (.t 8) (.t 10)⟩,
             ⟨some 13, none, .load 4 true (.t 12)⟩,
             ⟨some 7, none, .alloc [(.int .i64 0), (.int .i64 0), (.int .i64 0), .nilS]⟩,
             ⟨none, none, .store 4 (.t 7) (.t 13)⟩])
            (.seq
             (.reg [⟨some 14, none, .faddr 0 (.t 3)⟩,
              ⟨some 15, none, .load 1 false (.t 14)⟩,
              ⟨some 16, none, .faddr 1 (.t 7)⟩,
              ⟨some 17, none, .load 1 false (.t 16)⟩,
              ⟨some 18, none, .bin .leq (.t 15) (.t 17)⟩,
              ⟨some 19, none, .mov (.t 18)⟩,
              ⟨some 20, some (19, true), .faddr 1 (.t 7)⟩,
              ⟨some 21, some (19, true), .load 1 false (.t 20)⟩,
              ⟨some 22, some (19, true), .faddr 1 (.t 3)⟩,
              ⟨some 23, some (19, true), .load 1 false (.t 22)⟩,
              ⟨some 24, some (19, true), .bin .lss (.t 21) (.t 23)⟩,
              ⟨some 25, none, .pick (.t 19) (.t 24) (.c (.bool false))⟩])
             (.cond (.t 25)
              (.reg [⟨some 26, none, .mov (.t 5)⟩,
               ⟨some 27, none, .load 4 true (.t 7)⟩,
               ⟨some 28, none, .bslice false 4 [(.int .i64 0), (.int .i64 0), (.int .i64 0), .nilS] 1 [(0, (.t 27))]⟩,
               ⟨some 29, none, .append 4 48 (.t 26) (.t 28)⟩,
               ⟨some 5, none, .mov (.t 29)⟩])
              .skip))))
          (.reg [⟨some 30, none, .bin .add (.t 10) (.c (.int .i64 1))⟩,
           ⟨some 10, none, .mov (.t 30)⟩]))))
/-- tracebook/sample.Within -/
def c16 : AFn := ⟨2, 32, [4],
 (.seq
  (.reg [⟨some 3, none, .box (.t 1)⟩,
   ⟨some 4, none, .nilv 4⟩])
  (.seq
   (.reg [⟨some 5, none, .nilv 4⟩])
   (.seq
    (.seq
     (.reg [⟨some 8, none, .mov (.t 0)⟩,
      ⟨some 9, none, .len (.t 8)⟩,
      ⟨some 10, none, .mov (.c (.int .i64 0))⟩])
     (.block 0
      (.loop [3, 5, 8, 9, 10]
       c16b0)))
    (.seq
     (.reg [⟨some 31, none, .mov (.t 5)⟩,
      ⟨some 4, none, .mov (.t 31)⟩])
     .ret))))⟩
def k16 : List (List Nat) := [[3, 5, 8, 9, 10]]
def o16 : List Nat := []
def c17b0 : AC := (.seq
        (.seq
         (.reg [⟨some 7, none, .mov (.t 6)⟩,
          ⟨some 8, none, .mov (.t 0)⟩,
          ⟨some 9, none, .len (.t 8)⟩,
          ⟨some 10, none, .bin .lss (.t 7) (.t 9)⟩])
         (.cond (.t 10)
          .skip
          (.exit 0)))
        (.seq
         (.block 1
          (.seq
           (.reg [⟨some 13, none, .faddr 0 (.t 3)⟩,
            ⟨some 14, none, .load 1 false (.t 13)⟩,
            ⟨some 15, none, .mov (.t 0)⟩,
            ⟨some 16, none, .mov (.t 6)⟩,
            ⟨some 17, none, .iaddr (.slice 4) (.t 15) (.t 16)⟩,
            ⟨some 18, none, .faddr 1 (.t 17)⟩,
            ⟨some 19, none, .load 1 false (.t 18)⟩,
            ⟨some 20, none, .bin .leq (.t 14) (.t 19)⟩,
            ⟨some 21, none, .mov (.t 20)⟩,
            ⟨some 22, some (21, true), .mov (.t 0)⟩,
            ⟨some 23, some (21, true), .mov (.t 6)⟩,
            ⟨some 24, some (21, true), .iaddr (.slice 4) (.t 22) (.t 23)⟩,
            ⟨some 25, some (21, true), .faddr 1 (.t 24)⟩,
            ⟨some 26, some (21, true), .load 1 false (.t 25)⟩,
            ⟨some 27, some (21, true), .faddr 1 (.t 3)⟩,
            ⟨some 28, some (21, true), .load 1 false (.t 27)⟩,
            ⟨some 29, some (21, true), .bin .lss (.t 26) (.t 28)⟩,
            ⟨some 30, none, .pick (.t 21) (.t 29) (.c (.bool false))⟩])
           (.cond (.t 30)
            (.reg [⟨some 31, none, .mov (.t 5)⟩,
             ⟨some 32, none, .mov (.t 0)⟩,
             ⟨some 33, none, .mov (.t 6)⟩,
             ⟨some 34, none, .iaddr (.slice 4) (.t 32) (.t 33)⟩,
             ⟨some 35, none, .load 4 true (.t 34)⟩,
             ⟨some 36, none, .bslice false 4 [(.int .i64 0), (.int .i64 0), (.int .i64 0), .nilS] 1 [(0, (.t 35))]⟩,
             ⟨some 37, none, .append 4 48 (.t 31) (.t 36)⟩,
             ⟨some 5, none, .mov (.t 37)⟩])
            .skip)))
         (.reg [⟨some 11, none, .mov (.t 6)⟩,
          ⟨some 12, none, .bin .add (.t 11) (.c (.int .i64 1))⟩,
          ⟨some 6, none, .mov (.t 12)⟩])))
/-- tracebook/tracebookref29.Within -/
def c17 : AFn := ⟨2, 39, [4],
 (.seq
  (.reg [⟨some 3, none, .box (.t 1)⟩,
   ⟨some 4, none, .nilv 4⟩])
  (.seq
   (.reg [⟨some 5, none, .nilv 4⟩])
   (.seq
    (.seq
     (.reg [⟨some 6, none, .mov (.c (.int .i64 0))⟩])
     (.block 0
      (.loop [0, 3, 5, 6]
       c17b0)))
    (.seq
     (.reg [⟨some 38, none, .mov (.t 5)⟩,
      ⟨some 4, none, .mov (.t 38)⟩])
     .ret))))⟩
def k17 : List (List Nat) := [[0, 3, 5, 6]]
def o17 : List Nat := []
/-- tracebook/sample.Leaf -/
def c18 : AFn := ⟨2, 8, [4],
 (.seq
  (.reg [⟨some 3, none, .box (.t 1)⟩,
   ⟨some 4, none, .mov (.c (.int .i64 0))⟩])
  (.seq
   (.reg [⟨some 5, none, .mov (.t 0)⟩,
    ⟨some 6, none, .mkfn 30 [(.t 3)]⟩,
    ⟨some 7, none, .call false 29 [(.t 5), (.t 6)]⟩,
    ⟨some 4, none, .mov (.t 7)⟩])
   .ret))⟩
def k18 : List (List Nat) := []
def o18 : List Nat := []
def c19b0 : AC := (.seq
        (.seq
         (.reg [⟨some 8, none, .mov (.t 6)⟩,
          ⟨some 9, none, .mov (.t 0)⟩,
          ⟨some 10, none, .len (.t 9)⟩,
          ⟨some 11, none, .bin .lss (.t 8) (.t 10)⟩])
         (.cond (.t 11)
          .skip
          (.exit 0)))
        (.seq
         (.block 1
          (.seq
           (.reg [⟨some 14, none, .mov (.t 0)⟩,
            ⟨some 15, none, .mov (.t 6)⟩,
            ⟨some 16, none, .iaddr (.slice 4) (.t 14) (.t 15)⟩,
            ⟨some 17, none, .faddr 3 (.t 16)⟩,
            ⟨some 18, none, .load 1 false (.t 17)⟩,
            ⟨some 19, none, .len (.t 18)⟩,
            ⟨some 7, none, .mov (.t 19)⟩])
           (.seq
            (.reg [⟨some 20, none, .mov (.t 0)⟩,
             ⟨some 21, none, .mov (.t 6)⟩,
             ⟨some 22, none, .iaddr (.slice 4) (.t 20) (.t 21)⟩,
             ⟨some 23, none, .load 4 true (.t 22)⟩,
             ⟨some 24, none, .call false 27 [(.t 23)]⟩,
             ⟨some 25, none, .mov (.t 24)⟩,
             ⟨some 26, some (25, true), .mov (.t 7)⟩,
             ⟨some 27, some (25, true), .bin .gtr (.t 26) (.c (.int .i64 0))⟩,
             ⟨some 28, none, .pick (.t 25) (.t 27) (.c (.bool false))⟩,
             ⟨some 29, none, .mov (.t 28)⟩,
             ⟨some 30, some (29, true), .mov (.t 0)⟩,
             ⟨some 31, some (29, true), .mov (.t 6)⟩,
             ⟨some 32, some (29, true), .iaddr (.slice 4) (.t 30) (.t 31)⟩,
             ⟨some 33, some (29, true), .faddr 3 (.t 32)⟩,
             ⟨some 34, some (29, true), .load 1 false (.t 33)⟩,
             ⟨some 35, some (29, true), .mov (.t 7)⟩,
             ⟨some 36, some (29, true), .bin .sub (.t 35) (.c (.int .i64 1))⟩,
             ⟨some 37, some (29, true), .iaddr (.slice 1) (.t 34) (.t 36)⟩,
             ⟨some 38, some (29, true), .load 1 false (.t 37)⟩,
             ⟨some 39, some (29, true), .mov (.t 1)⟩,
             ⟨some 40, some (29, true), .bin .eql (.t 38) (.t 39)⟩,
             ⟨some 41, none, .pick (.t 29) (.t 40) (.c (.bool false))⟩])
            (.cond (.t 41)
             (.reg [⟨some 42, none, .mov (.t 5)⟩,
              ⟨some 43, none, .mov (.t 0)⟩,
              ⟨some 44, none, .mov (.t 6)⟩,
              ⟨some 45, none, .iaddr (.slice 4) (.t 43) (.t 44)⟩,
              ⟨some 46, none, .faddr 2 (.t 45)⟩,
              ⟨some 47, none, .load 1 false (.t 46)⟩,
              ⟨some 48, none, .bin .add (.t 42) (.t 47)⟩,
              ⟨some 49, none, .min [(.c (.int .i64 1000000000000000)), (.t 48)]⟩,
              ⟨some 5, none, .mov (.t 49)⟩])
             .skip))))
         (.reg [⟨some 12, none, .mov (.t 6)⟩,
          ⟨some 13, none, .bin .add (.t 12) (.c (.int .i64 1))⟩,
          ⟨some 6, none, .mov (.t 13)⟩])))
/-- tracebook/tracebookref29.Leaf -/
def c19 : AFn := ⟨2, 51, [4],
 (.seq
  (.reg [⟨some 4, none, .mov (.c (.int .i64 0))⟩])
  (.seq
   (.reg [⟨some 5, none, .mov (.c (.int .i64 0))⟩])
   (.seq
    (.seq
     (.reg [⟨some 6, none, .mov (.c (.int .i64 0))⟩])
     (.block 0
      (.loop [0, 1, 5, 6]
       c19b0)))
    (.seq
     (.reg [⟨some 50, none, .mov (.t 5)⟩,
      ⟨some 4, none, .mov (.t 50)⟩])
     .ret))))⟩
def k19 : List (List Nat) := [[0, 1, 5, 6]]
def o19 : List Nat := []
/-- tracebook/sample.Total -/
def c20 : AFn := ⟨1, 5, [2],
 (.seq
  (.reg [⟨some 2, none, .mov (.c (.int .i64 0))⟩])
  (.seq
   (.reg [⟨some 3, none, .mov (.t 0)⟩,
    ⟨some 4, none, .call false 29 [(.t 3), (.c (.fn 31 []))]⟩,
    ⟨some 2, none, .mov (.t 4)⟩])
   .ret))⟩
def k20 : List (List Nat) := []
def o20 : List Nat := []
def c21b0 : AC := (.seq
        (.seq
         (.reg [⟨some 5, none, .mov (.t 4)⟩,
          ⟨some 6, none, .mov (.t 0)⟩,
          ⟨some 7, none, .len (.t 6)⟩,
          ⟨some 8, none, .bin .lss (.t 5) (.t 7)⟩])
         (.cond (.t 8)
          .skip
          (.exit 0)))
        (.seq
         (.block 1
          (.seq
           (.reg [⟨some 11, none, .mov (.t 0)⟩,
            ⟨some 12, none, .mov (.t 4)⟩,
            ⟨some 13, none, .iaddr (.slice 4) (.t 11) (.t 12)⟩,
            ⟨some 14, none, .load 4 true (.t 13)⟩,
            ⟨some 15, none, .call false 27 [(.t 14)]⟩])
           (.cond (.t 15)
            (.reg [⟨some 16, none, .mov (.t 3)⟩,
             ⟨some 17, none, .mov (.t 0)⟩,
             ⟨some 18, none, .mov (.t 4)⟩,
             ⟨some 19, none, .iaddr (.slice 4) (.t 17) (.t 18)⟩,
             ⟨some 20, none, .faddr 2 (.t 19)⟩,
             ⟨some 21, none, .load 1 false (.t 20)⟩,
             ⟨some 22, none, .bin .add (.t 16) (.t 21)⟩,
             ⟨some 23, none, .min [(.c (.int .i64 1000000000000000)), (.t 22)]⟩,
             ⟨some 3, none, .mov (.t 23)⟩])
            .skip)))
         (.reg [⟨some 9, none, .mov (.t 4)⟩,
          ⟨some 10, none, .bin .add (.t 9) (.c (.int .i64 1))⟩,
          ⟨some 4, none, .mov (.t 10)⟩])))
/-- tracebook/tracebookref29.Total -/
def c21 : AFn := ⟨1, 25, [2],
 (.seq
  (.reg [⟨some 2, none, .mov (.c (.int .i64 0))⟩])
  (.seq
   (.reg [⟨some 3, none, .mov (.c (.int .i64 0))⟩])
   (.seq
    (.seq
     (.reg [⟨some 4, none, .mov (.c (.int .i64 0))⟩])
     (.block 0
      (.loop [0, 3, 4]
       c21b0)))
    (.seq
     (.reg [⟨some 24, none, .mov (.t 3)⟩,
      ⟨some 2, none, .mov (.t 24)⟩])
     .ret))))⟩
def k21 : List (List Nat) := [[0, 3, 4]]
def o21 : List Nat := []
def c22b0 : AC := (.seq
        (.seq
         (.reg [⟨some 11, none, .mov (.t 5)⟩,
          ⟨some 12, none, .mov (.t 0)⟩,
          ⟨some 13, none, .len (.t 12)⟩,
          ⟨some 14, none, .bin .lss (.t 11) (.t 13)⟩])
         (.cond (.t 14)
          .skip
          (.exit 0)))
        (.seq
         (.block 1
          (.seq
           (.reg [⟨some 17, none, .mov (.t 0)⟩,
            ⟨some 18, none, .mov (.t 5)⟩,
            ⟨some 19, none, .iaddr (.slice 1) (.t 17) (.t 18)⟩,
            ⟨some 20, none, .load 1 false (.t 19)⟩,
            ⟨some 21, none, .mov (.t 1)⟩,
            ⟨some 22, none, .mov (.t 5)⟩,
            ⟨some 23, none, .iaddr (.slice 1) (.t 21) (.t 22)⟩,
            ⟨some 24, none, .load 1 false (.t 23)⟩,
            ⟨some 25, none, .bin .neq (.t 20) (.t 24)⟩])
           (.cond (.t 25)
            (.seq
             (.reg [⟨some 4, none, .mov (.c (.bool false))⟩])
             .ret)
            .skip)))
         (.reg [⟨some 15, none, .mov (.t 5)⟩,
          ⟨some 16, none, .bin .add (.t 15) (.c (.int .i64 1))⟩,
          ⟨some 5, none, .mov (.t 16)⟩])))
/-- tracebook/tracebookref07.Texts -/
def c22 : AFn := ⟨2, 26, [4],
 (.seq
  (.reg [⟨some 4, none, .mov (.c (.bool false))⟩])
  (.seq
   (.seq
    (.reg [⟨some 6, none, .mov (.t 0)⟩,
     ⟨some 7, none, .len (.t 6)⟩,
     ⟨some 8, none, .mov (.t 1)⟩,
     ⟨some 9, none, .len (.t 8)⟩,
     ⟨some 10, none, .bin .neq (.t 7) (.t 9)⟩])
    (.cond (.t 10)
     (.seq
      (.reg [⟨some 4, none, .mov (.c (.bool false))⟩])
      .ret)
     .skip))
   (.seq
    (.seq
     (.reg [⟨some 5, none, .mov (.c (.int .i64 0))⟩])
     (.block 0
      (.loop [0, 1, 5]
       c22b0)))
    (.seq
     (.reg [⟨some 4, none, .mov (.c (.bool true))⟩])
     .ret))))⟩
def k22 : List (List Nat) := [[0, 1, 5]]
def o22 : List Nat := []
/-- tracebook/sample.timeOf -/
def c23 : AFn := ⟨1, 8, [2],
 (.seq
  (.reg [⟨some 1, none, .box (.t 0)⟩,
   ⟨some 2, none, .mov (.c (.int .i64 0))⟩])
  (.seq
   (.reg [⟨some 3, none, .faddr 8 (.t 1)⟩,
    ⟨some 4, none, .faddr 0 (.t 3)⟩,
    ⟨some 5, none, .load 1 false (.t 4)⟩,
    ⟨some 6, none, .max [(.t 5), (.c (.int .i64 0))]⟩,
    ⟨some 7, none, .min [(.t 6), (.c (.int .i64 1000000000000))]⟩,
    ⟨some 2, none, .mov (.t 7)⟩])
   .ret))⟩
def k23 : List (List Nat) := []
def o23 : List Nat := []
/-- tracebook/tracebookref29.Time -/
def c24 : AFn := ⟨1, 8, [2],
 (.seq
  (.reg [⟨some 1, none, .box (.t 0)⟩,
   ⟨some 2, none, .mov (.c (.int .i64 0))⟩])
  (.seq
   (.reg [⟨some 3, none, .faddr 8 (.t 1)⟩,
    ⟨some 4, none, .faddr 0 (.t 3)⟩,
    ⟨some 5, none, .load 1 false (.t 4)⟩,
    ⟨some 6, none, .min [(.t 5), (.c (.int .i64 1000000000000))]⟩,
    ⟨some 7, none, .max [(.c (.int .i64 0)), (.t 6)]⟩,
    ⟨some 2, none, .mov (.t 7)⟩])
   .ret))⟩
def k24 : List (List Nat) := []
def o24 : List Nat := []
/-- tracebook/sample.inRange -/
def c25 : AFn := ⟨1, 31, [2],
 (.seq
  (.reg [⟨some 1, none, .box (.t 0)⟩,
   ⟨some 2, none, .mov (.c (.bool false))⟩])
  (.seq
   (.reg [⟨some 3, none, .faddr 0 (.t 1)⟩,
    ⟨some 4, none, .load 1 false (.t 3)⟩,
    ⟨some 5, none, .bin .leq (.c (.int .i64 0)) (.t 4)⟩,
    ⟨some 6, none, .mov (.t 5)⟩,
    ⟨some 7, some (6, true), .faddr 0 (.t 1)⟩,
    ⟨some 8, some (6, true), .load 1 false (.t 7)⟩,
    ⟨some 9, some (6, true), .bin .leq (.t 8) (.c (.int .i64 1000000000000000))⟩,
    ⟨some 10, none, .pick (.t 6) (.t 9) (.c (.bool false))⟩,
    ⟨some 11, none, .mov (.t 10)⟩,
    ⟨some 12, some (11, true), .faddr 1 (.t 1)⟩,
    ⟨some 13, some (11, true), .load 1 false (.t 12)⟩,
    ⟨some 14, some (11, true), .bin .leq (.c (.int .i64 0)) (.t 13)⟩,
    ⟨some 15, none, .pick (.t 11) (.t 14) (.c (.bool false))⟩,
    ⟨some 16, none, .mov (.t 15)⟩,
    ⟨some 17, some (16, true), .faddr 1 (.t 1)⟩,
    ⟨some 18, some (16, true), .load 1 false (.t 17)⟩,
    ⟨some 19, some (16, true), .bin .leq (.t 18) (.c (.int .i64 1000000000000))⟩,
    ⟨some 20, none, .pick (.t 16) (.t 19) (.c (.bool false))⟩,
    ⟨some 21, none, .mov (.t 20)⟩,
    ⟨some 22, some (21, true), .faddr 2 (.t 1)⟩,
    ⟨some 23, some (21, true), .load 1 false (.t 22)⟩,
    ⟨some 24, some (21, true), .bin .leq (.c (.int .i64 1)) (.t 23)⟩,
    ⟨some 25, none, .pick (.t 21) (.t 24) (.c (.bool false))⟩,
    ⟨some 26, none, .mov (.t 25)⟩,
    ⟨some 27, some (26, true), .faddr 2 (.t 1)⟩,
    ⟨some 28, some (26, true), .load 1 false (.t 27)⟩,
    ⟨some 29, some (26, true), .bin .leq (.t 28) (.c (.int .i64 1000000000000))⟩,
    ⟨some 30, none, .pick (.t 26) (.t 29) (.c (.bool false))⟩,
    ⟨some 2, none, .mov (.t 30)⟩])
   .ret))⟩
def k25 : List (List Nat) := []
def o25 : List Nat := []
def c26b0 : AC := (.seq
        (.reg [⟨some 12, none, .bin .lss (.t 11) (.t 10)⟩])
        (.seq
         (.cond (.t 12)
          .skip
          (.exit 0))
         (.seq
          (.block 1
           (.seq
            (.reg [⟨some 13, none, .iaddr (.slice 1) (.t 9) (.t 11)⟩,
             ⟨some 14, none, .load 1 false (.t 13)⟩,
             ⟨some 4, none, .mov (.t 14)⟩])
            (.seq
             (.reg [⟨some 15, none, .mov (.t 4)⟩,
              ⟨some 16, none, .call false 32 [(.t 15)]⟩,
              ⟨some 5, none, .mov (.t 16)⟩])
             (.seq
              (.reg [⟨some 17, none, .mov (.t 5)⟩,
               ⟨some 18, none, .bin .neq (.t 17) (.c (.int .i64 0))⟩])
              (.cond (.t 18)
               (.seq
                (.reg [⟨some 19, none, .mov (.t 5)⟩,
                 ⟨some 2, none, .mov (.t 19)⟩])
                .ret)
               .skip)))))
          (.reg [⟨some 20, none, .bin .add (.t 11) (.c (.int .i64 1))⟩,
           ⟨some 11, none, .mov (.t 20)⟩]))))
/-- tracebook/intern.Frames -/
def c26 : AFn := ⟨1, 21, [2],
 (.seq
  (.reg [⟨some 2, none, .mov (.c (.int .i64 0))⟩])
  (.seq
   (.seq
    (.reg [⟨some 6, none, .mov (.t 0)⟩,
     ⟨some 7, none, .len (.t 6)⟩,
     ⟨some 8, none, .bin .gtr (.t 7) (.c (.int .i64 32))⟩])
    (.cond (.t 8)
     (.seq
      (.reg [⟨some 2, none, .mov (.c (.int .i64 7))⟩])
      .ret)
     .skip))
   (.seq
    (.seq
     (.reg [⟨some 9, none, .mov (.t 0)⟩,
      ⟨some 10, none, .len (.t 9)⟩,
      ⟨some 11, none, .mov (.c (.int .i64 0))⟩])
     (.block 0
      (.loop [9, 10, 11]
       c26b0)))
    (.seq
     (.reg [⟨some 2, none, .mov (.c (.int .i64 0))⟩])
     .ret))))⟩
def k26 : List (List Nat) := [[9, 10, 11]]
def o26 : List Nat := []
/-- tracebook/tracebookref29.inRange -/
def c27 : AFn := ⟨1, 31, [2],
 (.seq
  (.reg [⟨some 1, none, .box (.t 0)⟩,
   ⟨some 2, none, .mov (.c (.bool false))⟩])
  (.seq
   (.reg [⟨some 3, none, .faddr 0 (.t 1)⟩,
    ⟨some 4, none, .load 1 false (.t 3)⟩,
    ⟨some 5, none, .bin .geq (.t 4) (.c (.int .i64 0))⟩,
    ⟨some 6, none, .mov (.t 5)⟩,
    ⟨some 7, some (6, true), .faddr 0 (.t 1)⟩,
    ⟨some 8, some (6, true), .load 1 false (.t 7)⟩,
    ⟨some 9, some (6, true), .bin .leq (.t 8) (.c (.int .i64 1000000000000000))⟩,
    ⟨some 10, none, .pick (.t 6) (.t 9) (.c (.bool false))⟩,
    ⟨some 11, none, .mov (.t 10)⟩,
    ⟨some 12, some (11, true), .faddr 1 (.t 1)⟩,
    ⟨some 13, some (11, true), .load 1 false (.t 12)⟩,
    ⟨some 14, some (11, true), .bin .geq (.t 13) (.c (.int .i64 0))⟩,
    ⟨some 15, none, .pick (.t 11) (.t 14) (.c (.bool false))⟩,
    ⟨some 16, none, .mov (.t 15)⟩,
    ⟨some 17, some (16, true), .faddr 1 (.t 1)⟩,
    ⟨some 18, some (16, true), .load 1 false (.t 17)⟩,
    ⟨some 19, some (16, true), .bin .leq (.t 18) (.c (.int .i64 1000000000000))⟩,
    ⟨some 20, none, .pick (.t 16) (.t 19) (.c (.bool false))⟩,
    ⟨some 21, none, .mov (.t 20)⟩,
    ⟨some 22, some (21, true), .faddr 2 (.t 1)⟩,
    ⟨some 23, some (21, true), .load 1 false (.t 22)⟩,
    ⟨some 24, some (21, true), .bin .geq (.t 23) (.c (.int .i64 1))⟩,
    ⟨some 25, none, .pick (.t 21) (.t 24) (.c (.bool false))⟩,
    ⟨some 26, none, .mov (.t 25)⟩,
    ⟨some 27, some (26, true), .faddr 2 (.t 1)⟩,
    ⟨some 28, some (26, true), .load 1 false (.t 27)⟩,
    ⟨some 29, some (26, true), .bin .leq (.t 28) (.c (.int .i64 1000000000000))⟩,
    ⟨some 30, none, .pick (.t 26) (.t 29) (.c (.bool false))⟩,
    ⟨some 2, none, .mov (.t 30)⟩])
   .ret))⟩
def k27 : List (List Nat) := []
def o27 : List Nat := []
def c28b0 : AC := (.seq
        (.seq
         (.reg [⟨some 7, none, .mov (.t 3)⟩,
          ⟨some 8, none, .mov (.t 0)⟩,
          ⟨some 9, none, .len (.t 8)⟩,
          ⟨some 10, none, .bin .lss (.t 7) (.t 9)⟩])
         (.cond (.t 10)
          .skip
          (.exit 0)))
        (.seq
         (.block 1
          (.seq
           (.reg [⟨some 13, none, .mov (.t 0)⟩,
            ⟨some 14, none, .mov (.t 3)⟩,
            ⟨some 15, none, .iaddr (.slice 1) (.t 13) (.t 14)⟩,
            ⟨some 16, none, .load 1 false (.t 15)⟩,
            ⟨some 17, none, .call false 33 [(.t 16)]⟩,
            ⟨some 18, none, .bin .neq (.t 17) (.c (.int .i64 0))⟩])
           (.cond (.t 18)
            (.seq
             (.reg [⟨some 2, none, .mov (.c (.int .i64 3))⟩])
             .ret)
            .skip)))
         (.reg [⟨some 11, none, .mov (.t 3)⟩,
          ⟨some 12, none, .bin .add (.t 11) (.c (.int .i64 1))⟩,
          ⟨some 3, none, .mov (.t 12)⟩])))
/-- tracebook/tracebookref06.Frames -/
def c28 : AFn := ⟨1, 19, [2],
 (.seq
  (.reg [⟨some 2, none, .mov (.c (.int .i64 0))⟩])
  (.seq
   (.seq
    (.reg [⟨some 4, none, .mov (.t 0)⟩,
     ⟨some 5, none, .len (.t 4)⟩,
     ⟨some 6, none, .bin .gtr (.t 5) (.c (.int .i64 32))⟩])
    (.cond (.t 6)
     (.seq
      (.reg [⟨some 2, none, .mov (.c (.int .i64 7))⟩])
      .ret)
     .skip))
   (.seq
    (.seq
     (.reg [⟨some 3, none, .mov (.c (.int .i64 0))⟩])
     (.block 0
      (.loop [0, 3]
       c28b0)))
    (.seq
     (.reg [⟨some 2, none, .mov (.c (.int .i64 0))⟩])
     .ret))))⟩
def k28 : List (List Nat) := [[0, 3]]
def o28 : List Nat := []
def c29b0 : AC := (.seq
        (.reg [⟨some 11, none, .bin .lss (.t 10) (.t 9)⟩])
        (.seq
         (.cond (.t 11)
          .skip
          (.exit 0))
         (.seq
          (.block 1
           (.seq
            (.reg [⟨some 12, none, .iaddr (.slice 4) (.t 8) (.t 10)⟩,
             ⟨some 13, none, .load 4 true (.t 12)⟩,
             ⟨some 7, none, .alloc [(.int .i64 0), (.int .i64 0), (.int .i64 0), .nilS]⟩,
             ⟨none, none, .store 4 (.t 7) (.t 13)⟩])
            (.seq
             (.reg [⟨some 14, none, .load 4 true (.t 7)⟩,
              ⟨some 15, none, .call false 25 [(.t 14)]⟩,
              ⟨some 16, none, .mov (.t 15)⟩,
              ⟨some 17, some (16, true), .mov (.t 1)⟩,
              ⟨some 18, some (16, true), .load 4 true (.t 7)⟩,
              ⟨some 19, some (16, true), .calld false (.t 17) [(.t 18)]⟩,
              ⟨some 20, none, .pick (.t 16) (.t 19) (.c (.bool false))⟩])
             (.cond (.t 20)
              (.reg [⟨some 21, none, .mov (.t 5)⟩,
               ⟨some 22, none, .faddr 2 (.t 7)⟩,
               ⟨some 23, none, .load 1 false (.t 22)⟩,
               ⟨some 24, none, .bin .add (.t 21) (.t 23)⟩,
               ⟨some 25, none, .min [(.t 24), (.c (.int .i64 1000000000000000))]⟩,
               ⟨some 5, none, .mov (.t 25)⟩])
              .skip))))
          (.reg [⟨some 26, none, .bin .add (.t 10) (.c (.int .i64 1))⟩,
           ⟨some 10, none, .mov (.t 26)⟩]))))
/-- tracebook/sample.sum -/
def c29 : AFn := ⟨2, 28, [4],
 (.seq
  (.reg [⟨some 4, none, .mov (.c (.int .i64 0))⟩])
  (.seq
   (.reg [⟨some 5, none, .mov (.c (.int .i64 0))⟩])
   (.seq
    (.seq
     (.reg [⟨some 8, none, .mov (.t 0)⟩,
      ⟨some 9, none, .len (.t 8)⟩,
      ⟨some 10, none, .mov (.c (.int .i64 0))⟩])
     (.block 0
      (.loop [1, 5, 8, 9, 10]
       c29b0)))
    (.seq
     (.reg [⟨some 27, none, .mov (.t 5)⟩,
      ⟨some 4, none, .mov (.t 27)⟩])
     .ret))))⟩
def k29 : List (List Nat) := [[1, 5, 8, 9, 10]]
def o29 : List Nat := []
/-- tracebook/sample.Leaf$1 -/
def c30 : AFn := ⟨2, 20, [3],
 (.seq
  (.reg [⟨some 2, none, .box (.t 0)⟩,
   ⟨some 3, none, .mov (.c (.bool false))⟩])
  (.seq
   (.reg [⟨some 4, none, .faddr 3 (.t 2)⟩,
    ⟨some 5, none, .load 1 false (.t 4)⟩,
    ⟨some 6, none, .len (.t 5)⟩,
    ⟨some 7, none, .bin .gtr (.t 6) (.c (.int .i64 0))⟩,
    ⟨some 8, none, .mov (.t 7)⟩,
    ⟨some 9, some (8, true), .faddr 3 (.t 2)⟩,
    ⟨some 10, some (8, true), .load 1 false (.t 9)⟩,
    ⟨some 11, some (8, true), .faddr 3 (.t 2)⟩,
    ⟨some 12, some (8, true), .load 1 false (.t 11)⟩,
    ⟨some 13, some (8, true), .len (.t 12)⟩,
    ⟨some 14, some (8, true), .bin .sub (.t 13) (.c (.int .i64 1))⟩,
    ⟨some 15, some (8, true), .iaddr (.slice 1) (.t 10) (.t 14)⟩,
    ⟨some 16, some (8, true), .load 1 false (.t 15)⟩,
    ⟨some 17, some (8, true), .load 1 false (.t 1)⟩,
    ⟨some 18, some (8, true), .bin .eql (.t 16) (.t 17)⟩,
    ⟨some 19, none, .pick (.t 8) (.t 18) (.c (.bool false))⟩,
    ⟨some 3, none, .mov (.t 19)⟩])
   .ret))⟩
def k30 : List (List Nat) := []
def o30 : List Nat := []
/-- tracebook/sample.Total$1 -/
def c31 : AFn := ⟨1, 3, [2],
 (.seq
  (.reg [⟨some 1, none, .box (.t 0)⟩,
   ⟨some 2, none, .mov (.c (.bool false))⟩])
  (.seq
   (.reg [⟨some 2, none, .mov (.c (.bool true))⟩])
   .ret))⟩
def k31 : List (List Nat) := []
def o31 : List Nat := []
def c32b0 : AC := (.seq
        (.reg [⟨some 15, none, .bin .lss (.t 14) (.t 13)⟩])
        (.seq
         (.cond (.t 15)
          .skip
          (.exit 0))
         (.seq
          (.block 1
           (.seq
            (.reg [⟨some 16, none, .mov (.t 14)⟩,
             ⟨some 3, none, .mov (.t 16)⟩])
            (.seq
             (.reg [⟨some 17, none, .mov (.t 0)⟩,
              ⟨some 18, none, .mov (.t 3)⟩,
              ⟨some 19, none, .idxS (.t 17) (.t 18)⟩,
              ⟨some 20, none, .call false 34 [(.t 19)]⟩,
              ⟨some 21, none, .un .not (.t 20)⟩])
             (.cond (.t 21)
              (.seq
               (.reg [⟨some 2, none, .mov (.c (.int .i64 3))⟩])
               .ret)
              .skip))))
          (.reg [⟨some 22, none, .bin .add (.t 14) (.c (.int .i64 1))⟩,
           ⟨some 14, none, .mov (.t 22)⟩]))))
/-- tracebook/intern.Name -/
def c32 : AFn := ⟨1, 23, [2],
 (.seq
  (.reg [⟨some 2, none, .mov (.c (.int .i64 0))⟩])
  (.seq
   (.seq
    (.reg [⟨some 4, none, .mov (.t 0)⟩,
     ⟨some 5, none, .lenS (.t 4)⟩,
     ⟨some 6, none, .bin .lss (.t 5) (.c (.int .i64 1))⟩,
     ⟨some 7, none, .mov (.t 6)⟩,
     ⟨some 8, some (7, false), .mov (.t 0)⟩,
     ⟨some 9, some (7, false), .lenS (.t 8)⟩,
     ⟨some 10, some (7, false), .bin .gtr (.t 9) (.c (.int .i64 40))⟩,
     ⟨some 11, none, .pick (.t 7) (.c (.bool true)) (.t 10)⟩])
    (.cond (.t 11)
     (.seq
      (.reg [⟨some 2, none, .mov (.c (.int .i64 3))⟩])
      .ret)
     .skip))
   (.seq
    (.seq
     (.reg [⟨some 12, none, .mov (.t 0)⟩,
      ⟨some 13, none, .lenS (.t 12)⟩,
      ⟨some 14, none, .mov (.c (.int .i64 0))⟩])
     (.block 0
      (.loop [0, 13, 14]
       c32b0)))
    (.seq
     (.reg [⟨some 2, none, .mov (.c (.int .i64 0))⟩])
     .ret))))⟩
def k32 : List (List Nat) := [[0, 13, 14]]
def o32 : List Nat := []
def c33b0 : AC := (.seq
        (.seq
         (.reg [⟨some 12, none, .mov (.t 3)⟩,
          ⟨some 13, none, .mov (.t 0)⟩,
          ⟨some 14, none, .lenS (.t 13)⟩,
          ⟨some 15, none, .bin .lss (.t 12) (.t 14)⟩])
         (.cond (.t 15)
          .skip
          (.exit 0)))
        (.seq
         (.block 1
          (.seq
           (.reg [⟨some 18, none, .mov (.t 0)⟩,
            ⟨some 19, none, .mov (.t 3)⟩,
            ⟨some 20, none, .idxS (.t 18) (.t 19)⟩,
            ⟨some 21, none, .call false 35 [(.t 20)]⟩,
            ⟨some 22, none, .un .not (.t 21)⟩])
           (.cond (.t 22)
            (.seq
             (.reg [⟨some 2, none, .mov (.c (.int .i64 3))⟩])
             .ret)
            .skip)))
         (.reg [⟨some 16, none, .mov (.t 3)⟩,
          ⟨some 17, none, .bin .add (.t 16) (.c (.int .i64 1))⟩,
          ⟨some 3, none, .mov (.t 17)⟩])))
/-- tracebook/tracebookref06.Name -/
def c33 : AFn := ⟨1, 23, [2],
 (.seq
  (.reg [⟨some 2, none, .mov (.c (.int .i64 0))⟩])
  (.seq
   (.seq
    (.reg [⟨some 4, none, .mov (.t 0)⟩,
     ⟨some 5, none, .lenS (.t 4)⟩,
     ⟨some 6, none, .bin .lss (.t 5) (.c (.int .i64 1))⟩,
     ⟨some 7, none, .mov (.t 6)⟩,
     ⟨some 8, some (7, false), .mov (.t 0)⟩,
     ⟨some 9, some (7, false), .lenS (.t 8)⟩,
     ⟨some 10, some (7, false), .bin .gtr (.t 9) (.c (.int .i64 40))⟩,
     ⟨some 11, none, .pick (.t 7) (.c (.bool true)) (.t 10)⟩])
    (.cond (.t 11)
     (.seq
      (.reg [⟨some 2, none, .mov (.c (.int .i64 3))⟩])
      .ret)
     .skip))
   (.seq
    (.seq
     (.reg [⟨some 3, none, .mov (.c (.int .i64 0))⟩])
     (.block 0
      (.loop [0, 3]
       c33b0)))
    (.seq
     (.reg [⟨some 2, none, .mov (.c (.int .i64 0))⟩])
     .ret))))⟩
def k33 : List (List Nat) := [[0, 3]]
def o33 : List Nat := []
/-- tracebook/intern.isNameByte -/
def c34 : AFn := ⟨1, 34, [2],
 (.seq
  (.reg [⟨some 2, none, .mov (.c (.bool false))⟩])
  (.seq
   (.block 0
    (.seq
     (.seq
      (.reg [⟨some 4, none, .mov (.t 0)⟩,
       ⟨some 5, none, .bin .leq (.c (.int .u8 97)) (.t 4)⟩,
       ⟨some 6, none, .mov (.t 5)⟩,
       ⟨some 7, some (6, true), .mov (.t 0)⟩,
       ⟨some 8, some (6, true), .bin .leq (.t 7) (.c (.int .u8 122))⟩,
       ⟨some 9, none, .pick (.t 6) (.t 8) (.c (.bool false))⟩,
       ⟨some 3, none, .mov (.t 9)⟩])
      (.cond (.t 3)
       .skip
       (.seq
        (.reg [⟨some 10, none, .mov (.t 0)⟩,
         ⟨some 11, none, .bin .leq (.c (.int .u8 65)) (.t 10)⟩,
         ⟨some 12, none, .mov (.t 11)⟩,
         ⟨some 13, some (12, true), .mov (.t 0)⟩,
         ⟨some 14, some (12, true), .bin .leq (.t 13) (.c (.int .u8 90))⟩,
         ⟨some 15, none, .pick (.t 12) (.t 14) (.c (.bool false))⟩,
         ⟨some 3, none, .mov (.t 15)⟩])
        (.cond (.t 3)
         .skip
         (.reg [⟨some 16, none, .mov (.t 0)⟩,
          ⟨some 17, none, .bin .leq (.c (.int .u8 48)) (.t 16)⟩,
          ⟨some 18, none, .mov (.t 17)⟩,
          ⟨some 19, some (18, true), .mov (.t 0)⟩,
          ⟨some 20, some (18, true), .bin .leq (.t 19) (.c (.int .u8 57))⟩,
          ⟨some 21, none, .pick (.t 18) (.t 20) (.c (.bool false))⟩,
          ⟨some 3, none, .mov (.t 21)⟩])))))
     (.cond (.t 3)
      (.seq
       (.reg [⟨some 2, none, .mov (.c (.bool true))⟩])
       .ret)
      .skip)))
   (.seq
    (.seq
     (.reg [⟨some 22, none, .mov (.t 0)⟩])
     (.block 1
      (.seq
       (.seq
        (.reg [⟨some 24, none, .bin .eql (.t 22) (.c (.int .u8 95))⟩,
         ⟨some 23, none, .mov (.t 24)⟩])
        (.cond (.t 23)
         .skip
         (.seq
          (.reg [⟨some 25, none, .bin .eql (.t 22) (.c (.int .u8 46))⟩,
           ⟨some 23, none, .mov (.t 25)⟩])
          (.cond (.t 23)
           .skip
           (.seq
            (.reg [⟨some 26, none, .bin .eql (.t 22) (.c (.int .u8 58))⟩,
             ⟨some 23, none, .mov (.t 26)⟩])
            (.cond (.t 23)
             .skip
             (.seq
              (.reg [⟨some 27, none, .bin .eql (.t 22) (.c (.int .u8 47))⟩,
               ⟨some 23, none, .mov (.t 27)⟩])
              (.cond (.t 23)
               .skip
               (.seq
                (.reg [⟨some 28, none, .bin .eql (.t 22) (.c (.int .u8 60))⟩,
                 ⟨some 23, none, .mov (.t 28)⟩])
                (.cond (.t 23)
                 .skip
                 (.seq
                  (.reg [⟨some 29, none, .bin .eql (.t 22) (.c (.int .u8 62))⟩,
                   ⟨some 23, none, .mov (.t 29)⟩])
                  (.cond (.t 23)
                   .skip
                   (.seq
                    (.reg [⟨some 30, none, .bin .eql (.t 22) (.c (.int .u8 36))⟩,
                     ⟨some 23, none, .mov (.t 30)⟩])
                    (.cond (.t 23)
                     .skip
                     (.seq
                      (.reg [⟨some 31, none, .bin .eql (.t 22) (.c (.int .u8 42))⟩,
                       ⟨some 23, none, .mov (.t 31)⟩])
                      (.cond (.t 23)
                       .skip
                       (.seq
                        (.reg [⟨some 32, none, .bin .eql (.t 22) (.c (.int .u8 126))⟩,
                         ⟨some 23, none, .mov (.t 32)⟩])
                        (.cond (.t 23)
                         .skip
                         (.reg [⟨some 33, none, .bin .eql (.t 22) (.c (.int .u8 45))⟩,
                          ⟨some 23, none, .mov (.t 33)⟩])))))))))))))))))))
       (.cond (.t 23)
        (.seq
         (.reg [⟨some 2, none, .mov (.c (.bool true))⟩])
         .ret)
        .skip))))
    (.seq
     (.reg [⟨some 2, none, .mov (.c (.bool false))⟩])
     .ret))))⟩
def k34 : List (List Nat) := []
def o34 : List Nat := []
def c35b0 : AC := (.seq
         (.seq
          (.reg [⟨some 27, none, .mov (.t 4)⟩,
           ⟨some 28, none, .mov (.t 3)⟩,
           ⟨some 29, none, .lenS (.t 28)⟩,
           ⟨some 30, none, .bin .lss (.t 27) (.t 29)⟩])
          (.cond (.t 30)
           .skip
           (.exit 0)))
         (.seq
          (.block 1
           (.seq
            (.reg [⟨some 33, none, .mov (.t 3)⟩,
             ⟨some 34, none, .mov (.t 4)⟩,
             ⟨some 35, none, .idxS (.t 33) (.t 34)⟩,
             ⟨some 36, none, .mov (.t 0)⟩,
             ⟨some 37, none, .bin .eql (.t 35) (.t 36)⟩])
            (.cond (.t 37)
             (.seq
              (.reg [⟨some 2, none, .mov (.c (.bool true))⟩])
              .ret)
             .skip)))
          (.reg [⟨some 31, none, .mov (.t 4)⟩,
           ⟨some 32, none, .bin .add (.t 31) (.c (.int .i64 1))⟩,
           ⟨some 4, none, .mov (.t 32)⟩])))
/-- tracebook/tracebookref06.letter -/
def c35 : AFn := ⟨1, 38, [2],
 (.seq
  (.reg [⟨some 2, none, .mov (.c (.bool false))⟩])
  (.seq
   (.seq
    (.reg [⟨some 5, none, .mov (.t 0)⟩,
     ⟨some 6, none, .bin .geq (.t 5) (.c (.int .u8 97))⟩,
     ⟨some 7, none, .mov (.t 6)⟩,
     ⟨some 8, some (7, true), .mov (.t 0)⟩,
     ⟨some 9, some (7, true), .bin .leq (.t 8) (.c (.int .u8 122))⟩,
     ⟨some 10, none, .pick (.t 7) (.t 9) (.c (.bool false))⟩,
     ⟨some 11, none, .mov (.t 10)⟩,
     ⟨some 12, some (11, false), .mov (.t 0)⟩,
     ⟨some 13, some (11, false), .bin .geq (.t 12) (.c (.int .u8 65))⟩,
     ⟨some 14, some (11, false), .mov (.t 13)⟩,
     ⟨some 15, some (14, true), .mov (.t 0)⟩,
     ⟨some 16, some (14, true), .bin .leq (.t 15) (.c (.int .u8 90))⟩,
     ⟨some 17, some (11, false), .pick (.t 14) (.t 16) (.c (.bool false))⟩,
     ⟨some 18, none, .pick (.t 11) (.c (.bool true)) (.t 17)⟩,
     ⟨some 19, none, .mov (.t 18)⟩,
     ⟨some 20, some (19, false), .mov (.t 0)⟩,
     ⟨some 21, some (19, false), .bin .geq (.t 20) (.c (.int .u8 48))⟩,
     ⟨some 22, some (19, false), .mov (.t 21)⟩,
     ⟨some 23, some (22, true), .mov (.t 0)⟩,
     ⟨some 24, some (22, true), .bin .leq (.t 23) (.c (.int .u8 57))⟩,
     ⟨some 25, some (19, false), .pick (.t 22) (.t 24) (.c (.bool false))⟩,
     ⟨some 26, none, .pick (.t 19) (.c (.bool true)) (.t 25)⟩])
    (.cond (.t 26)
     (.seq
      (.reg [⟨some 2, none, .mov (.c (.bool true))⟩])
      .ret)
     .skip))
   (.seq
    (.reg [⟨some 3, none, .mov (.c (.str [95, 46, 58, 47, 60, 62, 36, 42, 126, 45]))⟩])
    (.seq
     (.seq
      (.reg [⟨some 4, none, .mov (.c (.int .i64 0))⟩])
      (.block 0
       (.loop [0, 3, 4]
        c35b0)))
     (.seq
      (.reg [⟨some 2, none, .mov (.c (.bool false))⟩])
      .ret)))))⟩
def k35 : List (List Nat) := [[0, 3, 4]]
def o35 : List Nat := []
def tbl : List (Nat × AFn) := [(3, c3), (4, c4), (5, c5), (6, c6), (7, c7), (8, c8), (9, c9), (10, c10), (11, c11), (12, c12), (13, c13), (14, c14), (15, c15), (16, c16), (17, c17), (18, c18), (19, c19), (20, c20), (21, c21), (22, c22), (23, c23), (24, c24), (25, c25), (26, c26), (27, c27), (28, c28), (29, c29), (30, c30), (31, c31), (32, c32), (33, c33), (34, c34), (35, c35)]
theorem d3 : digFn Try.prog o3 k3 Try.f3 = some c3 := by kernel_rfl
theorem d4 : digFn Try.prog o4 k4 Try.f4 = some c4 := by kernel_rfl
theorem d5 : digFn Try.prog o5 k5 Try.f5 = some c5 := by kernel_rfl
theorem d6 : digFn Try.prog o6 k6 Try.f6 = some c6 := by kernel_rfl
theorem d7 : digFn Try.prog o7 k7 Try.f7 = some c7 := by kernel_rfl
theorem d8 : digFn Try.prog o8 k8 Try.f8 = some c8 := by kernel_rfl
theorem d9 : digFn Try.prog o9 k9 Try.f9 = some c9 := by kernel_rfl
theorem d10 : digFn Try.prog o10 k10 Try.f10 = some c10 := by kernel_rfl
theorem d11 : digFn Try.prog o11 k11 Try.f11 = some c11 := by kernel_rfl
theorem d12 : digFn Try.prog o12 k12 Try.f12 = some c12 := by kernel_rfl
theorem d13 : digFn Try.prog o13 k13 Try.f13 = some c13 := by kernel_rfl
theorem d14 : digFn Try.prog o14 k14 Try.f14 = some c14 := by kernel_rfl
theorem d15 : digFn Try.prog o15 k15 Try.f15 = some c15 := by kernel_rfl
theorem d16 : digFn Try.prog o16 k16 Try.f16 = some c16 := by kernel_rfl
theorem d17 : digFn Try.prog o17 k17 Try.f17 = some c17 := by kernel_rfl
theorem d18 : digFn Try.prog o18 k18 Try.f18 = some c18 := by kernel_rfl
theorem d19 : digFn Try.prog o19 k19 Try.f19 = some c19 := by kernel_rfl
theorem d20 : digFn Try.prog o20 k20 Try.f20 = some c20 := by kernel_rfl
theorem d21 : digFn Try.prog o21 k21 Try.f21 = some c21 := by kernel_rfl
theorem d22 : digFn Try.prog o22 k22 Try.f22 = some c22 := by kernel_rfl
theorem d23 : digFn Try.prog o23 k23 Try.f23 = some c23 := by kernel_rfl
theorem d24 : digFn Try.prog o24 k24 Try.f24 = some c24 := by kernel_rfl
theorem d25 : digFn Try.prog o25 k25 Try.f25 = some c25 := by kernel_rfl
theorem d26 : digFn Try.prog o26 k26 Try.f26 = some c26 := by kernel_rfl
theorem d27 : digFn Try.prog o27 k27 Try.f27 = some c27 := by kernel_rfl
theorem d28 : digFn Try.prog o28 k28 Try.f28 = some c28 := by kernel_rfl
theorem d29 : digFn Try.prog o29 k29 Try.f29 = some c29 := by kernel_rfl
theorem d30 : digFn Try.prog o30 k30 Try.f30 = some c30 := by kernel_rfl
theorem d31 : digFn Try.prog o31 k31 Try.f31 = some c31 := by kernel_rfl
theorem d32 : digFn Try.prog o32 k32 Try.f32 = some c32 := by kernel_rfl
theorem d33 : digFn Try.prog o33 k33 Try.f33 = some c33 := by kernel_rfl
theorem d34 : digFn Try.prog o34 k34 Try.f34 = some c34 := by kernel_rfl
theorem d35 : digFn Try.prog o35 k35 Try.f35 = some c35 := by kernel_rfl
def Dg (f : Nat) : Option AFn := lookP tbl f
theorem D3 : Dg 3 = some c3 := by kernel_rfl
theorem D4 : Dg 4 = some c4 := by kernel_rfl
theorem D5 : Dg 5 = some c5 := by kernel_rfl
theorem D6 : Dg 6 = some c6 := by kernel_rfl
theorem D7 : Dg 7 = some c7 := by kernel_rfl
theorem D8 : Dg 8 = some c8 := by kernel_rfl
theorem D9 : Dg 9 = some c9 := by kernel_rfl
theorem D10 : Dg 10 = some c10 := by kernel_rfl
theorem D11 : Dg 11 = some c11 := by kernel_rfl
theorem D12 : Dg 12 = some c12 := by kernel_rfl
theorem D13 : Dg 13 = some c13 := by kernel_rfl
theorem D14 : Dg 14 = some c14 := by kernel_rfl
theorem D15 : Dg 15 = some c15 := by kernel_rfl
theorem D16 : Dg 16 = some c16 := by kernel_rfl
theorem D17 : Dg 17 = some c17 := by kernel_rfl
theorem D18 : Dg 18 = some c18 := by kernel_rfl
theorem D19 : Dg 19 = some c19 := by kernel_rfl
theorem D20 : Dg 20 = some c20 := by kernel_rfl
theorem D21 : Dg 21 = some c21 := by kernel_rfl
theorem D22 : Dg 22 = some c22 := by kernel_rfl
theorem D23 : Dg 23 = some c23 := by kernel_rfl
theorem D24 : Dg 24 = some c24 := by kernel_rfl
theorem D25 : Dg 25 = some c25 := by kernel_rfl
theorem D26 : Dg 26 = some c26 := by kernel_rfl
theorem D27 : Dg 27 = some c27 := by kernel_rfl
theorem D28 : Dg 28 = some c28 := by kernel_rfl
theorem D29 : Dg 29 = some c29 := by kernel_rfl
theorem D30 : Dg 30 = some c30 := by kernel_rfl
theorem D31 : Dg 31 = some c31 := by kernel_rfl
theorem D32 : Dg 32 = some c32 := by kernel_rfl
theorem D33 : Dg 33 = some c33 := by kernel_rfl
theorem D34 : Dg 34 = some c34 := by kernel_rfl
theorem D35 : Dg 35 = some c35 := by kernel_rfl
theorem dokL : ∀ x ∈ tbl, ∃ fn own ks, Try.prog.funcs[x.1]? = some fn ∧ digFn Try.prog own ks fn = some x.2 :=
  all_cons ⟨_, _, _, Try.func3, d3⟩ (
  all_cons ⟨_, _, _, Try.func4, d4⟩ (
  all_cons ⟨_, _, _, Try.func5, d5⟩ (
  all_cons ⟨_, _, _, Try.func6, d6⟩ (
  all_cons ⟨_, _, _, Try.func7, d7⟩ (
  all_cons ⟨_, _, _, Try.func8, d8⟩ (
  all_cons ⟨_, _, _, Try.func9, d9⟩ (
  all_cons ⟨_, _, _, Try.func10, d10⟩ (
  all_cons ⟨_, _, _, Try.func11, d11⟩ (
  all_cons ⟨_, _, _, Try.func12, d12⟩ (
  all_cons ⟨_, _, _, Try.func13, d13⟩ (
  all_cons ⟨_, _, _, Try.func14, d14⟩ (
  all_cons ⟨_, _, _, Try.func15, d15⟩ (
  all_cons ⟨_, _, _, Try.func16, d16⟩ (
  all_cons ⟨_, _, _, Try.func17, d17⟩ (
  all_cons ⟨_, _, _, Try.func18, d18⟩ (
  all_cons ⟨_, _, _, Try.func19, d19⟩ (
  all_cons ⟨_, _, _, Try.func20, d20⟩ (
  all_cons ⟨_, _, _, Try.func21, d21⟩ (
  all_cons ⟨_, _, _, Try.func22, d22⟩ (
  all_cons ⟨_, _, _, Try.func23, d23⟩ (
  all_cons ⟨_, _, _, Try.func24, d24⟩ (
  all_cons ⟨_, _, _, Try.func25, d25⟩ (
  all_cons ⟨_, _, _, Try.func26, d26⟩ (
  all_cons ⟨_, _, _, Try.func27, d27⟩ (
  all_cons ⟨_, _, _, Try.func28, d28⟩ (
  all_cons ⟨_, _, _, Try.func29, d29⟩ (
  all_cons ⟨_, _, _, Try.func30, d30⟩ (
  all_cons ⟨_, _, _, Try.func31, d31⟩ (
  all_cons ⟨_, _, _, Try.func32, d32⟩ (
  all_cons ⟨_, _, _, Try.func33, d33⟩ (
  all_cons ⟨_, _, _, Try.func34, d34⟩ (
  all_cons ⟨_, _, _, Try.func35, d35⟩ (
  all_nil)))))))))))))))))))))))))))))))))
theorem dok : DOk Try.prog Dg := fun f fc h => dokL (f, fc) (lookP_mem h)

end Go.Proofs.Ytgipbahlcnageaa
