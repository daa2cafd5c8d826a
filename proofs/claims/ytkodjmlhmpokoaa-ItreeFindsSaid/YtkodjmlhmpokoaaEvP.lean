/- The code of the functions, as it is read. -/
import Derived.Test.YtkodjmlhmpokoaaEvPa
namespace Go.Proofs.Ytkodjmlhmpokoaa
open Go
def c42b0 : AC := (.block 1
      (.seq
       (.reg [⟨some 19, none, .mov (.t 2)⟩,
        ⟨some 20, none, .mov (.t 1)⟩,
        ⟨some 21, none, .bin .sub (.t 19) (.t 20)⟩,
        ⟨some 10, none, .mov (.t 21)⟩])
       (.seq
        (.seq
         (.reg [⟨some 22, none, .mov (.t 10)⟩,
          ⟨some 23, none, .bin .leq (.t 22) (.c (.int .i64 12))⟩])
         (.cond (.t 23)
          (.seq
           (.reg [⟨some 24, none, .mov (.t 0)⟩,
            ⟨some 25, none, .mov (.t 1)⟩,
            ⟨some 26, none, .mov (.t 2)⟩,
            ⟨some 27, none, .callS 57 [(.t 24), (.t 25), (.t 26)]⟩])
           .ret)
          .skip))
        (.seq
         (.seq
          (.reg [⟨some 28, none, .mov (.t 3)⟩,
           ⟨some 29, none, .bin .eql (.t 28) (.c (.int .i64 0))⟩])
          (.cond (.t 29)
           (.seq
            (.reg [⟨some 30, none, .mov (.t 0)⟩,
             ⟨some 31, none, .mov (.t 1)⟩,
             ⟨some 32, none, .mov (.t 2)⟩,
             ⟨some 33, none, .callS 58 [(.t 30), (.t 31), (.t 32)]⟩])
            .ret)
           .skip))
         (.seq
          (.seq
           (.reg [⟨some 34, none, .mov (.t 8)⟩,
            ⟨some 35, none, .un .not (.t 34)⟩])
           (.cond (.t 35)
            (.seq
             (.reg [⟨some 36, none, .mov (.t 0)⟩,
              ⟨some 37, none, .mov (.t 1)⟩,
              ⟨some 38, none, .mov (.t 2)⟩,
              ⟨some 39, none, .callS 59 [(.t 36), (.t 37), (.t 38)]⟩])
             (.reg [⟨some 40, none, .mov (.t 3)⟩,
              ⟨some 41, none, .bin .sub (.t 40) (.c (.int .i64 1))⟩,
              ⟨some 3, none, .mov (.t 41)⟩]))
            .skip))
          (.seq
           (.reg [⟨some 43, none, .mov (.t 0)⟩,
            ⟨some 44, none, .mov (.t 1)⟩,
            ⟨some 45, none, .mov (.t 2)⟩,
            ⟨some 46, none, .callS 60 [(.t 43), (.t 44), (.t 45)]⟩,
            ⟨some 42, none, .mov (.t 46)⟩,
            ⟨some 47, none, .ext (.t 42) 0⟩,
            ⟨some 48, none, .ext (.t 42) 1⟩,
            ⟨some 11, none, .mov (.t 47)⟩,
            ⟨some 12, none, .mov (.t 48)⟩])
           (.seq
            (.seq
             (.reg [⟨some 49, none, .mov (.t 12)⟩,
              ⟨some 50, none, .bin .eql (.t 49) (.c (.int .i64 2))⟩])
             (.cond (.t 50)
              (.seq
               (.reg [⟨some 51, none, .mov (.t 0)⟩,
                ⟨some 52, none, .mov (.t 1)⟩,
                ⟨some 53, none, .mov (.t 2)⟩,
                ⟨some 54, none, .callS 61 [(.t 51), (.t 52), (.t 53)]⟩])
               (.seq
                (.reg [⟨some 55, none, .mov (.t 2)⟩,
                 ⟨some 56, none, .bin .sub (.t 55) (.c (.int .i64 1))⟩,
                 ⟨some 57, none, .mov (.t 11)⟩,
                 ⟨some 58, none, .mov (.t 1)⟩,
                 ⟨some 59, none, .bin .sub (.t 57) (.t 58)⟩,
                 ⟨some 60, none, .bin .sub (.t 56) (.t 59)⟩,
                 ⟨some 11, none, .mov (.t 60)⟩])
                (.reg [⟨some 12, none, .mov (.c (.int .i64 1))⟩])))
              .skip))
            (.seq
             (.seq
              (.reg [⟨some 61, none, .mov (.t 8)⟩,
               ⟨some 62, none, .mov (.t 61)⟩,
               ⟨some 63, some (62, true), .mov (.t 9)⟩,
               ⟨some 64, none, .pick (.t 62) (.t 63) (.c (.bool false))⟩,
               ⟨some 65, none, .mov (.t 64)⟩,
               ⟨some 66, some (65, true), .mov (.t 12)⟩,
               ⟨some 67, some (65, true), .bin .eql (.t 66) (.c (.int .i64 1))⟩,
               ⟨some 68, none, .pick (.t 65) (.t 67) (.c (.bool false))⟩])
              (.cond (.t 68)
               (.seq
                (.reg [⟨some 69, none, .mov (.t 0)⟩,
                 ⟨some 70, none, .mov (.t 1)⟩,
                 ⟨some 71, none, .mov (.t 2)⟩,
                 ⟨some 72, none, .callS 62 [(.t 69), (.t 70), (.t 71)]⟩])
                (.cond (.t 72)
                 .ret
                 .skip))
               .skip))
             (.seq
              (.seq
               (.reg [⟨some 73, none, .mov (.t 1)⟩,
                ⟨some 74, none, .bin .gtr (.t 73) (.c (.int .i64 0))⟩,
                ⟨some 75, none, .mov (.t 74)⟩,
                ⟨some 76, some (75, true), .mov (.t 0)⟩,
                ⟨some 77, some (75, true), .mov (.t 1)⟩,
                ⟨some 78, some (75, true), .bin .sub (.t 77) (.c (.int .i64 1))⟩,
                ⟨some 79, some (75, true), .iaddr (.slice 1) (.t 76) (.t 78)⟩,
                ⟨some 80, some (75, true), .load 1 false (.t 79)⟩,
                ⟨some 81, some (75, true), .mov (.t 0)⟩,
                ⟨some 82, some (75, true), .mov (.t 11)⟩,
                ⟨some 83, some (75, true), .iaddr (.slice 1) (.t 81) (.t 82)⟩,
                ⟨some 84, some (75, true), .load 1 false (.t 83)⟩,
                ⟨some 85, some (75, true), .call false 63 [(.t 80), (.t 84)]⟩,
                ⟨some 86, some (75, true), .un .not (.t 85)⟩,
                ⟨some 87, none, .pick (.t 75) (.t 86) (.c (.bool false))⟩])
               (.cond (.t 87)
                (.seq
                 (.reg [⟨some 88, none, .mov (.t 0)⟩,
                  ⟨some 89, none, .mov (.t 1)⟩,
                  ⟨some 90, none, .mov (.t 2)⟩,
                  ⟨some 91, none, .mov (.t 11)⟩,
                  ⟨some 92, none, .callS 64 [(.t 88), (.t 89), (.t 90), (.t 91)]⟩,
                  ⟨some 13, none, .mov (.t 92)⟩])
                 (.seq
                  (.reg [⟨some 93, none, .mov (.t 13)⟩,
                   ⟨some 1, none, .mov (.t 93)⟩])
                  (.exit 1)))
                .skip))
              (.seq
               (.reg [⟨some 95, none, .mov (.t 0)⟩,
                ⟨some 96, none, .mov (.t 1)⟩,
                ⟨some 97, none, .mov (.t 2)⟩,
                ⟨some 98, none, .mov (.t 11)⟩,
                ⟨some 99, none, .callS 65 [(.t 95), (.t 96), (.t 97), (.t 98)]⟩,
                ⟨some 94, none, .mov (.t 99)⟩,
                ⟨some 100, none, .ext (.t 94) 0⟩,
                ⟨some 101, none, .ext (.t 94) 1⟩,
                ⟨some 14, none, .mov (.t 100)⟩,
                ⟨some 15, none, .mov (.t 101)⟩])
               (.seq
                (.reg [⟨some 102, none, .mov (.t 15)⟩,
                 ⟨some 9, none, .mov (.t 102)⟩])
                (.seq
                 (.reg [⟨some 103, none, .mov (.t 14)⟩,
                  ⟨some 104, none, .mov (.t 1)⟩,
                  ⟨some 105, none, .bin .sub (.t 103) (.t 104)⟩,
                  ⟨some 106, none, .mov (.t 2)⟩,
                  ⟨some 107, none, .mov (.t 14)⟩,
                  ⟨some 108, none, .bin .sub (.t 106) (.t 107)⟩,
                  ⟨some 16, none, .mov (.t 105)⟩,
                  ⟨some 17, none, .mov (.t 108)⟩])
                 (.seq
                  (.reg [⟨some 109, none, .mov (.t 10)⟩,
                   ⟨some 110, none, .bin .quo (.t 109) (.c (.int .i64 8))⟩,
                   ⟨some 18, none, .mov (.t 110)⟩])
                  (.seq
                   (.reg [⟨some 111, none, .mov (.t 16)⟩,
                    ⟨some 112, none, .mov (.t 17)⟩,
                    ⟨some 113, none, .bin .lss (.t 111) (.t 112)⟩])
                   (.cond (.t 113)
                    (.seq
                     (.reg [⟨some 114, none, .mov (.t 16)⟩,
                      ⟨some 115, none, .mov (.t 18)⟩,
                      ⟨some 116, none, .bin .geq (.t 114) (.t 115)⟩,
                      ⟨some 8, none, .mov (.t 116)⟩])
                     (.seq
                      (.reg [⟨some 117, none, .mov (.t 0)⟩,
                       ⟨some 118, none, .mov (.t 1)⟩,
                       ⟨some 119, none, .mov (.t 14)⟩,
                       ⟨some 120, none, .mov (.t 3)⟩,
                       ⟨some 121, none, .callS 42 [(.t 117), (.t 118), (.t 119), (.t 120)]⟩])
                      (.reg [⟨some 122, none, .mov (.t 14)⟩,
                       ⟨some 123, none, .bin .add (.t 122) (.c (.int .i64 1))⟩,
                       ⟨some 1, none, .mov (.t 123)⟩])))
                    (.seq
                     (.reg [⟨some 124, none, .mov (.t 17)⟩,
                      ⟨some 125, none, .mov (.t 18)⟩,
                      ⟨some 126, none, .bin .geq (.t 124) (.t 125)⟩,
                      ⟨some 8, none, .mov (.t 126)⟩])
                     (.seq
                      (.reg [⟨some 127, none, .mov (.t 0)⟩,
                       ⟨some 128, none, .mov (.t 14)⟩,
                       ⟨some 129, none, .bin .add (.t 128) (.c (.int .i64 1))⟩,
                       ⟨some 130, none, .mov (.t 2)⟩,
                       ⟨some 131, none, .mov (.t 3)⟩,
                       ⟨some 132, none, .callS 42 [(.t 127), (.t 129), (.t 130), (.t 131)]⟩])
                      (.reg [⟨some 133, none, .mov (.t 14)⟩,
                       ⟨some 2, none, .mov (.t 133)⟩]))))))))))))))))))
/-- slices.pdqsortOrdered[int] -/
def c42 : AFn := ⟨4, 134, [],
 (.seq
  (.reg [⟨some 8, none, .mov (.c (.bool true))⟩])
  (.seq
   (.reg [⟨some 9, none, .mov (.c (.bool true))⟩])
   (.block 0
    (.loop [0, 1, 2, 3, 8, 9]
     c42b0)))), none⟩
def k42 : List (List Nat) := [[0, 1, 2, 3, 8, 9]]
def o42 : List Nat := [1000023, 1000027, 1000029, 1000031, 1000032, 1000037, 1000041, 1000042, 1000044, 1000046, 1000047, 1000048, 1000049, 1000050, 1000051, 1000052, 1000053, 1000057, 1000058, 1000059, 1000060, 1000061, 1000062, 1000064, 1000065, 1000066, 1000067, 1000070, 1000071, 1000072, 1000073, 1000074, 1000075, 1000076, 1000077, 1000078, 1000079, 1000080, 1000081, 1000082, 1000083, 1000084, 1000085, 1000086, 1000087, 1000088, 3000000]
/-- tracebook/spans.Valid -/
def c43 : AFn := ⟨1, 18, [.t 2],
 (.seq
  (.reg [⟨some 1, none, .box (.t 0)⟩,
   ⟨some 2, none, .mov (.c (.bool false))⟩])
  (.seq
   (.reg [⟨some 3, none, .faddr 0 (.t 1)⟩,
    ⟨some 4, none, .load 1 false (.t 3)⟩,
    ⟨some 5, none, .bin .leq (.c (.int .i64 0)) (.t 4)⟩,
    ⟨some 6, none, .mov (.t 5)⟩,
    ⟨some 7, some (6, true), .faddr 0 (.t 1)⟩,
    ⟨some 8, some (6, true), .load 1 false (.t 7)⟩,
    ⟨some 9, some (6, true), .faddr 1 (.t 1)⟩,
    ⟨some 10, some (6, true), .load 1 false (.t 9)⟩,
    ⟨some 11, some (6, true), .bin .lss (.t 8) (.t 10)⟩,
    ⟨some 12, none, .pick (.t 6) (.t 11) (.c (.bool false))⟩,
    ⟨some 13, none, .mov (.t 12)⟩,
    ⟨some 14, some (13, true), .faddr 1 (.t 1)⟩,
    ⟨some 15, some (13, true), .load 1 false (.t 14)⟩,
    ⟨some 16, some (13, true), .bin .leq (.t 15) (.c (.int .i64 1000000000000))⟩,
    ⟨some 17, none, .pick (.t 13) (.t 16) (.c (.bool false))⟩,
    ⟨some 2, none, .mov (.t 17)⟩])
   .ret)), none⟩
def k43 : List (List Nat) := []
def o43 : List Nat := [1000023, 1000027, 1000029, 1000031, 1000032, 1000037, 1000041, 1000042, 1000044, 1000046, 1000047, 1000048, 1000049, 1000050, 1000051, 1000052, 1000053, 1000057, 1000058, 1000059, 1000060, 1000061, 1000062, 1000064, 1000065, 1000066, 1000067, 1000070, 1000071, 1000072, 1000073, 1000074, 1000075, 1000076, 1000077, 1000078, 1000079, 1000080, 1000081, 1000082, 1000083, 1000084, 1000085, 1000086, 1000087, 1000088, 3000000]
/-- slices.SortFunc[[]tracebook/api.Span,tracebook/api.Span] -/
def c44 : AFn := ⟨2, 14, [],
 (.seq
  (.reg [⟨some 5, none, .mov (.t 0)⟩,
   ⟨some 6, none, .len (.t 5)⟩,
   ⟨some 4, none, .mov (.t 6)⟩])
  (.reg [⟨some 7, none, .mov (.t 0)⟩,
   ⟨some 8, none, .mov (.t 4)⟩,
   ⟨some 9, none, .mov (.t 4)⟩,
   ⟨some 10, none, .conv (.int .u64) (.t 9)⟩,
   ⟨some 11, none, .call true 38 [(.t 10)]⟩,
   ⟨some 12, none, .mov (.t 1)⟩,
   ⟨some 13, none, .callS 66 [(.t 7), (.c (.int .i64 0)), (.t 8), (.t 11), (.t 12)]⟩])), none⟩
def k44 : List (List Nat) := []
def o44 : List Nat := [1000023, 1000027, 1000029, 1000031, 1000032, 1000037, 1000041, 1000042, 1000044, 1000046, 1000047, 1000048, 1000049, 1000050, 1000051, 1000052, 1000053, 1000057, 1000058, 1000059, 1000060, 1000061, 1000062, 1000064, 1000065, 1000066, 1000067, 1000070, 1000071, 1000072, 1000073, 1000074, 1000075, 1000076, 1000077, 1000078, 1000079, 1000080, 1000081, 1000082, 1000083, 1000084, 1000085, 1000086, 1000087, 1000088, 3000000, 11]
/-- tracebook/spans.Normal$1 -/
def c45 : AFn := ⟨2, 10, [.t 4],
 (.seq
  (.reg [⟨some 2, none, .box (.t 0)⟩,
   ⟨some 3, none, .box (.t 1)⟩,
   ⟨some 4, none, .mov (.c (.int .i64 0))⟩])
  (.seq
   (.reg [⟨some 5, none, .faddr 0 (.t 2)⟩,
    ⟨some 6, none, .load 1 false (.t 5)⟩,
    ⟨some 7, none, .faddr 0 (.t 3)⟩,
    ⟨some 8, none, .load 1 false (.t 7)⟩,
    ⟨some 9, none, .call false 26 [(.t 6), (.t 8)]⟩,
    ⟨some 4, none, .mov (.t 9)⟩])
   .ret)), none⟩
def k45 : List (List Nat) := []
def o45 : List Nat := [1000023, 1000027, 1000029, 1000031, 1000032, 1000037, 1000041, 1000042, 1000044, 1000046, 1000047, 1000048, 1000049, 1000050, 1000051, 1000052, 1000053, 1000057, 1000058, 1000059, 1000060, 1000061, 1000062, 1000064, 1000065, 1000066, 1000067, 1000070, 1000071, 1000072, 1000073, 1000074, 1000075, 1000076, 1000077, 1000078, 1000079, 1000080, 1000081, 1000082, 1000083, 1000084, 1000085, 1000086, 1000087, 1000088, 3000000]
def c46b0 : AC := (.seq
           (.seq
            (.reg [⟨some 18, none, .mov (.t 9)⟩,
             ⟨some 19, none, .mov (.t 1)⟩,
             ⟨some 20, none, .bin .gtr (.t 18) (.t 19)⟩,
             ⟨some 21, none, .mov (.t 20)⟩,
             ⟨some 22, some (21, true), .mov (.t 3)⟩,
             ⟨some 23, some (21, true), .mov (.t 0)⟩,
             ⟨some 24, some (21, true), .mov (.t 9)⟩,
             ⟨some 25, some (21, true), .iaddr (.slice 1) (.t 23) (.t 24)⟩,
             ⟨some 26, some (21, true), .load 1 false (.t 25)⟩,
             ⟨some 27, some (21, true), .mov (.t 0)⟩,
             ⟨some 28, some (21, true), .mov (.t 9)⟩,
             ⟨some 29, some (21, true), .bin .sub (.t 28) (.c (.int .i64 1))⟩,
             ⟨some 30, some (21, true), .iaddr (.slice 1) (.t 27) (.t 29)⟩,
             ⟨some 31, some (21, true), .load 1 false (.t 30)⟩,
             ⟨some 32, some (21, true), .calld false (.t 22) [(.t 26), (.t 31)]⟩,
             ⟨some 33, some (21, true), .bin .lss (.t 32) (.c (.int .i64 0))⟩,
             ⟨some 34, none, .pick (.t 21) (.t 33) (.c (.bool false))⟩])
            (.cond (.t 34)
             .skip
             (.exit 2)))
           (.seq
            (.block 3
             (.reg [⟨some 37, none, .mov (.t 0)⟩,
              ⟨some 38, none, .mov (.t 9)⟩,
              ⟨some 39, none, .mov (.t 0)⟩,
              ⟨some 40, none, .mov (.t 9)⟩,
              ⟨some 41, none, .bin .sub (.t 40) (.c (.int .i64 1))⟩,
              ⟨some 42, none, .mov (.t 0)⟩,
              ⟨some 43, none, .mov (.t 9)⟩,
              ⟨some 44, none, .bin .sub (.t 43) (.c (.int .i64 1))⟩,
              ⟨some 45, none, .iaddr (.slice 1) (.t 42) (.t 44)⟩,
              ⟨some 46, none, .load 1 false (.t 45)⟩,
              ⟨some 47, none, .mov (.t 0)⟩,
              ⟨some 48, none, .mov (.t 9)⟩,
              ⟨some 49, none, .iaddr (.slice 1) (.t 47) (.t 48)⟩,
              ⟨some 50, none, .load 1 false (.t 49)⟩,
              ⟨some 51, none, .iaddr (.slice 1) (.t 37) (.t 38)⟩,
              ⟨none, none, .store 1 (.t 51) (.t 46)⟩,
              ⟨some 52, none, .iaddr (.slice 1) (.t 39) (.t 41)⟩,
              ⟨none, none, .store 1 (.t 52) (.t 50)⟩]))
            (.reg [⟨some 35, none, .mov (.t 9)⟩,
             ⟨some 36, none, .bin .sub (.t 35) (.c (.int .i64 1))⟩,
             ⟨some 9, none, .mov (.t 36)⟩])))
def c46b1 : AC := (.seq
     (.seq
      (.reg [⟨some 12, none, .mov (.t 8)⟩,
       ⟨some 13, none, .mov (.t 2)⟩,
       ⟨some 14, none, .bin .lss (.t 12) (.t 13)⟩])
      (.cond (.t 14)
       .skip
       (.exit 0)))
     (.seq
      (.block 1
       (.seq
        (.reg [⟨some 17, none, .mov (.t 8)⟩,
         ⟨some 9, none, .mov (.t 17)⟩])
        (.block 2
         (.loop [0, 1, 2, 3, 8, 9]
          c46b0))))
      (.reg [⟨some 15, none, .mov (.t 8)⟩,
       ⟨some 16, none, .bin .add (.t 15) (.c (.int .i64 1))⟩,
       ⟨some 8, none, .mov (.t 16)⟩])))
/-- slices.insertionSortCmpFunc[int] -/
def c46 : AFn := ⟨4, 53, [],
 (.seq
  (.reg [⟨some 10, none, .mov (.t 1)⟩,
   ⟨some 11, none, .bin .add (.t 10) (.c (.int .i64 1))⟩,
   ⟨some 8, none, .mov (.t 11)⟩])
  (.block 0
   (.loop [0, 1, 2, 3, 8]
    c46b1))), none⟩
def k46 : List (List Nat) := [[0, 1, 2, 3, 8], [0, 1, 2, 3, 8, 9]]
def o46 : List Nat := [1000023, 1000027, 1000029, 1000031, 1000032, 1000037, 1000041, 1000042, 1000044, 1000046, 1000047, 1000048, 1000049, 1000050, 1000051, 1000052, 1000053, 1000057, 1000058, 1000059, 1000060, 1000061, 1000062, 1000064, 1000065, 1000066, 1000067, 1000070, 1000071, 1000072, 1000073, 1000074, 1000075, 1000076, 1000077, 1000078, 1000079, 1000080, 1000081, 1000082, 1000083, 1000084, 1000085, 1000086, 1000087, 1000088, 3000000]
def c47b0 : AC := (.seq
         (.seq
          (.reg [⟨some 32, none, .mov (.t 12)⟩,
           ⟨some 33, none, .bin .geq (.t 32) (.c (.int .i64 0))⟩])
          (.cond (.t 33)
           .skip
           (.exit 2)))
         (.seq
          (.block 3
           (.seq
            (.reg [⟨some 36, none, .mov (.t 0)⟩,
             ⟨some 37, none, .mov (.t 8)⟩,
             ⟨some 38, none, .mov (.t 0)⟩,
             ⟨some 39, none, .mov (.t 8)⟩,
             ⟨some 40, none, .mov (.t 12)⟩,
             ⟨some 41, none, .bin .add (.t 39) (.t 40)⟩,
             ⟨some 42, none, .mov (.t 0)⟩,
             ⟨some 43, none, .mov (.t 8)⟩,
             ⟨some 44, none, .mov (.t 12)⟩,
             ⟨some 45, none, .bin .add (.t 43) (.t 44)⟩,
             ⟨some 46, none, .iaddr (.slice 1) (.t 42) (.t 45)⟩,
             ⟨some 47, none, .load 1 false (.t 46)⟩,
             ⟨some 48, none, .mov (.t 0)⟩,
             ⟨some 49, none, .mov (.t 8)⟩,
             ⟨some 50, none, .iaddr (.slice 1) (.t 48) (.t 49)⟩,
             ⟨some 51, none, .load 1 false (.t 50)⟩,
             ⟨some 52, none, .iaddr (.slice 1) (.t 36) (.t 37)⟩,
             ⟨none, none, .store 1 (.t 52) (.t 47)⟩,
             ⟨some 53, none, .iaddr (.slice 1) (.t 38) (.t 41)⟩,
             ⟨none, none, .store 1 (.t 53) (.t 51)⟩])
            (.reg [⟨some 54, none, .mov (.t 0)⟩,
             ⟨some 55, none, .mov (.t 9)⟩,
             ⟨some 56, none, .mov (.t 12)⟩,
             ⟨some 57, none, .mov (.t 8)⟩,
             ⟨some 58, none, .mov (.t 3)⟩,
             ⟨some 59, none, .callS 67 [(.t 54), (.t 55), (.t 56), (.t 57), (.t 58)]⟩])))
          (.reg [⟨some 34, none, .mov (.t 12)⟩,
           ⟨some 35, none, .bin .sub (.t 34) (.c (.int .i64 1))⟩,
           ⟨some 12, none, .mov (.t 35)⟩])))
def c47b1 : AC := (.seq
         (.seq
          (.reg [⟨some 20, none, .mov (.t 11)⟩,
           ⟨some 21, none, .bin .geq (.t 20) (.c (.int .i64 0))⟩])
          (.cond (.t 21)
           .skip
           (.exit 0)))
         (.seq
          (.block 1
           (.reg [⟨some 24, none, .mov (.t 0)⟩,
            ⟨some 25, none, .mov (.t 11)⟩,
            ⟨some 26, none, .mov (.t 10)⟩,
            ⟨some 27, none, .mov (.t 8)⟩,
            ⟨some 28, none, .mov (.t 3)⟩,
            ⟨some 29, none, .callS 67 [(.t 24), (.t 25), (.t 26), (.t 27), (.t 28)]⟩]))
          (.reg [⟨some 22, none, .mov (.t 11)⟩,
           ⟨some 23, none, .bin .sub (.t 22) (.c (.int .i64 1))⟩,
           ⟨some 11, none, .mov (.t 23)⟩])))
def c47r0 : AC := (.seq
      (.reg [⟨some 30, none, .mov (.t 10)⟩,
       ⟨some 31, none, .bin .sub (.t 30) (.c (.int .i64 1))⟩,
       ⟨some 12, none, .mov (.t 31)⟩])
      (.block 2
       (.loop [0, 3, 8, 9, 12]
        c47b0)))
/-- slices.heapSortCmpFunc[int] -/
def c47 : AFn := ⟨4, 60, [],
 (.seq
  (.reg [⟨some 13, none, .mov (.t 1)⟩,
   ⟨some 8, none, .mov (.t 13)⟩])
  (.seq
   (.reg [⟨some 9, none, .mov (.c (.int .i64 0))⟩])
   (.seq
    (.reg [⟨some 14, none, .mov (.t 2)⟩,
     ⟨some 15, none, .mov (.t 1)⟩,
     ⟨some 16, none, .bin .sub (.t 14) (.t 15)⟩,
     ⟨some 10, none, .mov (.t 16)⟩])
    (.seq
     (.seq
      (.reg [⟨some 17, none, .mov (.t 10)⟩,
       ⟨some 18, none, .bin .sub (.t 17) (.c (.int .i64 1))⟩,
       ⟨some 19, none, .bin .quo (.t 18) (.c (.int .i64 2))⟩,
       ⟨some 11, none, .mov (.t 19)⟩])
      (.block 0
       (.loop [0, 3, 8, 9, 10, 11]
        c47b1)))
     c47r0)))), none⟩
def k47 : List (List Nat) := [[0, 3, 8, 9, 10, 11], [0, 3, 8, 9, 12]]
def o47 : List Nat := [1000023, 1000027, 1000029, 1000031, 1000032, 1000037, 1000041, 1000042, 1000044, 1000046, 1000047, 1000048, 1000049, 1000050, 1000051, 1000052, 1000053, 1000057, 1000058, 1000059, 1000060, 1000061, 1000062, 1000064, 1000065, 1000066, 1000067, 1000070, 1000071, 1000072, 1000073, 1000074, 1000075, 1000076, 1000077, 1000078, 1000079, 1000080, 1000081, 1000082, 1000083, 1000084, 1000085, 1000086, 1000087, 1000088, 3000000]
def c48b0 : AC := (.seq
          (.seq
           (.reg [⟨some 28, none, .mov (.t 11)⟩,
            ⟨some 29, none, .mov (.t 1)⟩,
            ⟨some 30, none, .mov (.t 8)⟩,
            ⟨some 31, none, .bin .quo (.t 30) (.c (.int .i64 4))⟩,
            ⟨some 32, none, .bin .mul (.t 31) (.c (.int .i64 2))⟩,
            ⟨some 33, none, .bin .add (.t 29) (.t 32)⟩,
            ⟨some 34, none, .bin .add (.t 33) (.c (.int .i64 1))⟩,
            ⟨some 35, none, .bin .leq (.t 28) (.t 34)⟩])
           (.cond (.t 35)
            .skip
            (.exit 0)))
          (.seq
           (.block 1
            (.seq
             (.reg [⟨some 38, none, .call false 69 [(.t 9)]⟩,
              ⟨some 39, none, .mov (.t 10)⟩,
              ⟨some 40, none, .bin .sub (.t 39) (.c (.int .u64 1))⟩,
              ⟨some 41, none, .bin .and (.t 38) (.t 40)⟩,
              ⟨some 42, none, .conv (.int .i64) (.t 41)⟩,
              ⟨some 12, none, .mov (.t 42)⟩])
             (.seq
              (.seq
               (.reg [⟨some 43, none, .mov (.t 12)⟩,
                ⟨some 44, none, .mov (.t 8)⟩,
                ⟨some 45, none, .bin .geq (.t 43) (.t 44)⟩])
               (.cond (.t 45)
                (.reg [⟨some 46, none, .mov (.t 12)⟩,
                 ⟨some 47, none, .mov (.t 8)⟩,
                 ⟨some 48, none, .bin .sub (.t 46) (.t 47)⟩,
                 ⟨some 12, none, .mov (.t 48)⟩])
                .skip))
              (.reg [⟨some 49, none, .mov (.t 0)⟩,
               ⟨some 50, none, .mov (.t 11)⟩,
               ⟨some 51, none, .mov (.t 0)⟩,
               ⟨some 52, none, .mov (.t 1)⟩,
               ⟨some 53, none, .mov (.t 12)⟩,
               ⟨some 54, none, .bin .add (.t 52) (.t 53)⟩,
               ⟨some 55, none, .mov (.t 0)⟩,
               ⟨some 56, none, .mov (.t 1)⟩,
               ⟨some 57, none, .mov (.t 12)⟩,
               ⟨some 58, none, .bin .add (.t 56) (.t 57)⟩,
               ⟨some 59, none, .iaddr (.slice 1) (.t 55) (.t 58)⟩,
               ⟨some 60, none, .load 1 false (.t 59)⟩,
               ⟨some 61, none, .mov (.t 0)⟩,
               ⟨some 62, none, .mov (.t 11)⟩,
               ⟨some 63, none, .iaddr (.slice 1) (.t 61) (.t 62)⟩,
               ⟨some 64, none, .load 1 false (.t 63)⟩,
               ⟨some 65, none, .iaddr (.slice 1) (.t 49) (.t 50)⟩,
               ⟨none, none, .store 1 (.t 65) (.t 60)⟩,
               ⟨some 66, none, .iaddr (.slice 1) (.t 51) (.t 54)⟩,
               ⟨none, none, .store 1 (.t 66) (.t 64)⟩]))))
           (.reg [⟨some 36, none, .mov (.t 11)⟩,
            ⟨some 37, none, .bin .add (.t 36) (.c (.int .i64 1))⟩,
            ⟨some 11, none, .mov (.t 37)⟩])))
/-- slices.breakPatternsCmpFunc[int] -/
def c48 : AFn := ⟨4, 67, [],
 (.seq
  (.reg [⟨some 13, none, .mov (.t 2)⟩,
   ⟨some 14, none, .mov (.t 1)⟩,
   ⟨some 15, none, .bin .sub (.t 13) (.t 14)⟩,
   ⟨some 8, none, .mov (.t 15)⟩])
  (.seq
   (.reg [⟨some 16, none, .mov (.t 8)⟩,
    ⟨some 17, none, .bin .geq (.t 16) (.c (.int .i64 8))⟩])
   (.cond (.t 17)
    (.seq
     (.reg [⟨some 18, none, .mov (.t 8)⟩,
      ⟨some 19, none, .conv (.int .u64) (.t 18)⟩,
      ⟨some 9, none, .alloc [(.int .u64 0)]⟩,
      ⟨none, none, .store 1 (.t 9) (.t 19)⟩])
     (.seq
      (.reg [⟨some 20, none, .mov (.t 8)⟩,
       ⟨some 21, none, .call false 68 [(.t 20)]⟩,
       ⟨some 10, none, .mov (.t 21)⟩])
      (.seq
       (.reg [⟨some 22, none, .mov (.t 1)⟩,
        ⟨some 23, none, .mov (.t 8)⟩,
        ⟨some 24, none, .bin .quo (.t 23) (.c (.int .i64 4))⟩,
        ⟨some 25, none, .bin .mul (.t 24) (.c (.int .i64 2))⟩,
        ⟨some 26, none, .bin .add (.t 22) (.t 25)⟩,
        ⟨some 27, none, .bin .sub (.t 26) (.c (.int .i64 1))⟩,
        ⟨some 11, none, .mov (.t 27)⟩])
       (.block 0
        (.loop [0, 1, 8, 9, 10, 11]
         c48b0)))))
    .skip))), none⟩
def k48 : List (List Nat) := [[0, 1, 8, 9, 10, 11]]
def o48 : List Nat := [1000023, 1000027, 1000029, 1000031, 1000032, 1000037, 1000041, 1000042, 1000044, 1000046, 1000047, 1000048, 1000049, 1000050, 1000051, 1000052, 1000053, 1000057, 1000058, 1000059, 1000060, 1000061, 1000062, 1000064, 1000065, 1000066, 1000067, 1000070, 1000071, 1000072, 1000073, 1000074, 1000075, 1000076, 1000077, 1000078, 1000079, 1000080, 1000081, 1000082, 1000083, 1000084, 1000085, 1000086, 1000087, 1000088, 3000000]
/-- slices.choosePivotCmpFunc[int] -/
def c49 : AFn := ⟨4, 63, [.t 8, .t 9],
 (.seq
  (.reg [⟨some 8, none, .mov (.c (.int .i64 0))⟩,
   ⟨some 9, none, .mov (.c (.int .i64 0))⟩])
  (.seq
   (.reg [⟨some 15, none, .mov (.t 2)⟩,
    ⟨some 16, none, .mov (.t 1)⟩,
    ⟨some 17, none, .bin .sub (.t 15) (.t 16)⟩,
    ⟨some 10, none, .mov (.t 17)⟩])
   (.seq
    (.reg [⟨some 11, none, .alloc [(.int .i64 0)]⟩])
    (.seq
     (.reg [⟨some 18, none, .mov (.t 1)⟩,
      ⟨some 19, none, .mov (.t 10)⟩,
      ⟨some 20, none, .bin .quo (.t 19) (.c (.int .i64 4))⟩,
      ⟨some 21, none, .bin .mul (.t 20) (.c (.int .i64 1))⟩,
      ⟨some 22, none, .bin .add (.t 18) (.t 21)⟩,
      ⟨some 12, none, .mov (.t 22)⟩])
     (.seq
      (.reg [⟨some 23, none, .mov (.t 1)⟩,
       ⟨some 24, none, .mov (.t 10)⟩,
       ⟨some 25, none, .bin .quo (.t 24) (.c (.int .i64 4))⟩,
       ⟨some 26, none, .bin .mul (.t 25) (.c (.int .i64 2))⟩,
       ⟨some 27, none, .bin .add (.t 23) (.t 26)⟩,
       ⟨some 13, none, .mov (.t 27)⟩])
      (.seq
       (.reg [⟨some 28, none, .mov (.t 1)⟩,
        ⟨some 29, none, .mov (.t 10)⟩,
        ⟨some 30, none, .bin .quo (.t 29) (.c (.int .i64 4))⟩,
        ⟨some 31, none, .bin .mul (.t 30) (.c (.int .i64 3))⟩,
        ⟨some 32, none, .bin .add (.t 28) (.t 31)⟩,
        ⟨some 14, none, .mov (.t 32)⟩])
       (.seq
        (.seq
         (.reg [⟨some 33, none, .mov (.t 10)⟩,
          ⟨some 34, none, .bin .geq (.t 33) (.c (.int .i64 8))⟩])
         (.cond (.t 34)
          (.seq
           (.seq
            (.reg [⟨some 35, none, .mov (.t 10)⟩,
             ⟨some 36, none, .bin .geq (.t 35) (.c (.int .i64 50))⟩])
            (.cond (.t 36)
             (.seq
              (.reg [⟨some 37, none, .mov (.t 0)⟩,
               ⟨some 38, none, .mov (.t 12)⟩,
               ⟨some 39, none, .mov (.t 3)⟩,
               ⟨some 40, none, .callS 70 [(.t 37), (.t 38), (.t 11), (.t 39)]⟩,
               ⟨some 12, none, .mov (.t 40)⟩])
              (.seq
               (.reg [⟨some 41, none, .mov (.t 0)⟩,
                ⟨some 42, none, .mov (.t 13)⟩,
                ⟨some 43, none, .mov (.t 3)⟩,
                ⟨some 44, none, .callS 70 [(.t 41), (.t 42), (.t 11), (.t 43)]⟩,
                ⟨some 13, none, .mov (.t 44)⟩])
               (.reg [⟨some 45, none, .mov (.t 0)⟩,
                ⟨some 46, none, .mov (.t 14)⟩,
                ⟨some 47, none, .mov (.t 3)⟩,
                ⟨some 48, none, .callS 70 [(.t 45), (.t 46), (.t 11), (.t 47)]⟩,
                ⟨some 14, none, .mov (.t 48)⟩])))
             .skip))
           (.reg [⟨some 49, none, .mov (.t 0)⟩,
            ⟨some 50, none, .mov (.t 12)⟩,
            ⟨some 51, none, .mov (.t 13)⟩,
            ⟨some 52, none, .mov (.t 14)⟩,
            ⟨some 53, none, .mov (.t 3)⟩,
            ⟨some 54, none, .callS 71 [(.t 49), (.t 50), (.t 51), (.t 52), (.t 11), (.t 53)]⟩,
            ⟨some 13, none, .mov (.t 54)⟩]))
          .skip))
        (.seq
         (.reg [⟨some 55, none, .load 1 false (.t 11)⟩])
         (.block 0
          (.seq
           (.reg [⟨some 58, none, .bin .eql (.t 55) (.c (.int .i64 0))⟩,
            ⟨some 57, none, .mov (.t 58)⟩])
           (.cond (.t 57)
            (.seq
             (.reg [⟨some 59, none, .mov (.t 13)⟩,
              ⟨some 8, none, .mov (.t 59)⟩,
              ⟨some 9, none, .mov (.c (.int .i64 1))⟩])
             .ret)
            (.seq
             (.reg [⟨some 61, none, .bin .eql (.t 55) (.c (.int .i64 12))⟩,
              ⟨some 60, none, .mov (.t 61)⟩])
             (.cond (.t 60)
              (.seq
               (.reg [⟨some 62, none, .mov (.t 13)⟩,
                ⟨some 8, none, .mov (.t 62)⟩,
                ⟨some 9, none, .mov (.c (.int .i64 2))⟩])
               .ret)
              (.seq
               (.reg [⟨some 56, none, .mov (.t 13)⟩,
                ⟨some 8, none, .mov (.t 56)⟩,
                ⟨some 9, none, .mov (.c (.int .i64 0))⟩])
               .ret)))))))))))))), none⟩
def k49 : List (List Nat) := []
def o49 : List Nat := [1000023, 1000027, 1000029, 1000031, 1000032, 1000037, 1000041, 1000042, 1000044, 1000046, 1000047, 1000048, 1000049, 1000050, 1000051, 1000052, 1000053, 1000057, 1000058, 1000059, 1000060, 1000061, 1000062, 1000064, 1000065, 1000066, 1000067, 1000070, 1000071, 1000072, 1000073, 1000074, 1000075, 1000076, 1000077, 1000078, 1000079, 1000080, 1000081, 1000082, 1000083, 1000084, 1000085, 1000086, 1000087, 1000088, 3000000]
def c50b0 : AC := (.seq
      (.seq
       (.reg [⟨some 13, none, .mov (.t 8)⟩,
        ⟨some 14, none, .mov (.t 9)⟩,
        ⟨some 15, none, .bin .lss (.t 13) (.t 14)⟩])
       (.cond (.t 15)
        .skip
        (.exit 0)))
      (.block 1
       (.seq
        (.reg [⟨some 16, none, .mov (.t 0)⟩,
         ⟨some 17, none, .mov (.t 8)⟩,
         ⟨some 18, none, .mov (.t 0)⟩,
         ⟨some 19, none, .mov (.t 9)⟩,
         ⟨some 20, none, .mov (.t 0)⟩,
         ⟨some 21, none, .mov (.t 9)⟩,
         ⟨some 22, none, .iaddr (.slice 1) (.t 20) (.t 21)⟩,
         ⟨some 23, none, .load 1 false (.t 22)⟩,
         ⟨some 24, none, .mov (.t 0)⟩,
         ⟨some 25, none, .mov (.t 8)⟩,
         ⟨some 26, none, .iaddr (.slice 1) (.t 24) (.t 25)⟩,
         ⟨some 27, none, .load 1 false (.t 26)⟩,
         ⟨some 28, none, .iaddr (.slice 1) (.t 16) (.t 17)⟩,
         ⟨none, none, .store 1 (.t 28) (.t 23)⟩,
         ⟨some 29, none, .iaddr (.slice 1) (.t 18) (.t 19)⟩,
         ⟨none, none, .store 1 (.t 29) (.t 27)⟩])
        (.seq
         (.reg [⟨some 30, none, .mov (.t 8)⟩,
          ⟨some 31, none, .bin .add (.t 30) (.c (.int .i64 1))⟩,
          ⟨some 8, none, .mov (.t 31)⟩])
         (.reg [⟨some 32, none, .mov (.t 9)⟩,
          ⟨some 33, none, .bin .sub (.t 32) (.c (.int .i64 1))⟩,
          ⟨some 9, none, .mov (.t 33)⟩])))))
/-- slices.reverseRangeCmpFunc[int] -/
def c50 : AFn := ⟨4, 34, [],
 (.seq
  (.reg [⟨some 10, none, .mov (.t 1)⟩,
   ⟨some 8, none, .mov (.t 10)⟩])
  (.seq
   (.reg [⟨some 11, none, .mov (.t 2)⟩,
    ⟨some 12, none, .bin .sub (.t 11) (.c (.int .i64 1))⟩,
    ⟨some 9, none, .mov (.t 12)⟩])
   (.block 0
    (.loop [0, 8, 9]
     c50b0)))), none⟩
def k50 : List (List Nat) := [[0, 8, 9]]
def o50 : List Nat := [1000023, 1000027, 1000029, 1000031, 1000032, 1000037, 1000041, 1000042, 1000044, 1000046, 1000047, 1000048, 1000049, 1000050, 1000051, 1000052, 1000053, 1000057, 1000058, 1000059, 1000060, 1000061, 1000062, 1000064, 1000065, 1000066, 1000067, 1000070, 1000071, 1000072, 1000073, 1000074, 1000075, 1000076, 1000077, 1000078, 1000079, 1000080, 1000081, 1000082, 1000083, 1000084, 1000085, 1000086, 1000087, 1000088, 3000000]
def c51b0 : AC := (.seq
                     (.seq
                      (.reg [⟨some 107, none, .mov (.t 12)⟩,
                       ⟨some 108, none, .mov (.t 2)⟩,
                       ⟨some 109, none, .bin .lss (.t 107) (.t 108)⟩])
                      (.cond (.t 109)
                       .skip
                       (.exit 6)))
                     (.seq
                      (.block 7
                       (.seq
                        (.seq
                         (.reg [⟨some 112, none, .mov (.t 3)⟩,
                          ⟨some 113, none, .mov (.t 0)⟩,
                          ⟨some 114, none, .mov (.t 12)⟩,
                          ⟨some 115, none, .iaddr (.slice 1) (.t 113) (.t 114)⟩,
                          ⟨some 116, none, .load 1 false (.t 115)⟩,
                          ⟨some 117, none, .mov (.t 0)⟩,
                          ⟨some 118, none, .mov (.t 12)⟩,
                          ⟨some 119, none, .bin .sub (.t 118) (.c (.int .i64 1))⟩,
                          ⟨some 120, none, .iaddr (.slice 1) (.t 117) (.t 119)⟩,
                          ⟨some 121, none, .load 1 false (.t 120)⟩,
                          ⟨some 122, none, .calld false (.t 112) [(.t 116), (.t 121)]⟩,
                          ⟨some 123, none, .bin .lss (.t 122) (.c (.int .i64 0))⟩,
                          ⟨some 124, none, .un .not (.t 123)⟩])
                         (.cond (.t 124)
                          (.exit 6)
                          .skip))
                        (.reg [⟨some 125, none, .mov (.t 0)⟩,
                         ⟨some 126, none, .mov (.t 12)⟩,
                         ⟨some 127, none, .mov (.t 0)⟩,
                         ⟨some 128, none, .mov (.t 12)⟩,
                         ⟨some 129, none, .bin .sub (.t 128) (.c (.int .i64 1))⟩,
                         ⟨some 130, none, .mov (.t 0)⟩,
                         ⟨some 131, none, .mov (.t 12)⟩,
                         ⟨some 132, none, .bin .sub (.t 131) (.c (.int .i64 1))⟩,
                         ⟨some 133, none, .iaddr (.slice 1) (.t 130) (.t 132)⟩,
                         ⟨some 134, none, .load 1 false (.t 133)⟩,
                         ⟨some 135, none, .mov (.t 0)⟩,
                         ⟨some 136, none, .mov (.t 12)⟩,
                         ⟨some 137, none, .iaddr (.slice 1) (.t 135) (.t 136)⟩,
                         ⟨some 138, none, .load 1 false (.t 137)⟩,
                         ⟨some 139, none, .iaddr (.slice 1) (.t 125) (.t 126)⟩,
                         ⟨none, none, .store 1 (.t 139) (.t 134)⟩,
                         ⟨some 140, none, .iaddr (.slice 1) (.t 127) (.t 129)⟩,
                         ⟨none, none, .store 1 (.t 140) (.t 138)⟩])))
                      (.reg [⟨some 110, none, .mov (.t 12)⟩,
                       ⟨some 111, none, .bin .add (.t 110) (.c (.int .i64 1))⟩,
                       ⟨some 12, none, .mov (.t 111)⟩])))
def c51b1 : AC := (.seq
                     (.seq
                      (.reg [⟨some 68, none, .mov (.t 11)⟩,
                       ⟨some 69, none, .bin .geq (.t 68) (.c (.int .i64 1))⟩])
                      (.cond (.t 69)
                       .skip
                       (.exit 4)))
                     (.seq
                      (.block 5
                       (.seq
                        (.seq
                         (.reg [⟨some 72, none, .mov (.t 3)⟩,
                          ⟨some 73, none, .mov (.t 0)⟩,
                          ⟨some 74, none, .mov (.t 11)⟩,
                          ⟨some 75, none, .iaddr (.slice 1) (.t 73) (.t 74)⟩,
                          ⟨some 76, none, .load 1 false (.t 75)⟩,
                          ⟨some 77, none, .mov (.t 0)⟩,
                          ⟨some 78, none, .mov (.t 11)⟩,
                          ⟨some 79, none, .bin .sub (.t 78) (.c (.int .i64 1))⟩,
                          ⟨some 80, none, .iaddr (.slice 1) (.t 77) (.t 79)⟩,
                          ⟨some 81, none, .load 1 false (.t 80)⟩,
                          ⟨some 82, none, .calld false (.t 72) [(.t 76), (.t 81)]⟩,
                          ⟨some 83, none, .bin .lss (.t 82) (.c (.int .i64 0))⟩,
                          ⟨some 84, none, .un .not (.t 83)⟩])
                         (.cond (.t 84)
                          (.exit 4)
                          .skip))
                        (.reg [⟨some 85, none, .mov (.t 0)⟩,
                         ⟨some 86, none, .mov (.t 11)⟩,
                         ⟨some 87, none, .mov (.t 0)⟩,
                         ⟨some 88, none, .mov (.t 11)⟩,
                         ⟨some 89, none, .bin .sub (.t 88) (.c (.int .i64 1))⟩,
                         ⟨some 90, none, .mov (.t 0)⟩,
                         ⟨some 91, none, .mov (.t 11)⟩,
                         ⟨some 92, none, .bin .sub (.t 91) (.c (.int .i64 1))⟩,
                         ⟨some 93, none, .iaddr (.slice 1) (.t 90) (.t 92)⟩,
                         ⟨some 94, none, .load 1 false (.t 93)⟩,
                         ⟨some 95, none, .mov (.t 0)⟩,
                         ⟨some 96, none, .mov (.t 11)⟩,
                         ⟨some 97, none, .iaddr (.slice 1) (.t 95) (.t 96)⟩,
                         ⟨some 98, none, .load 1 false (.t 97)⟩,
                         ⟨some 99, none, .iaddr (.slice 1) (.t 85) (.t 86)⟩,
                         ⟨none, none, .store 1 (.t 99) (.t 94)⟩,
                         ⟨some 100, none, .iaddr (.slice 1) (.t 87) (.t 89)⟩,
                         ⟨none, none, .store 1 (.t 100) (.t 98)⟩])))
                      (.reg [⟨some 70, none, .mov (.t 11)⟩,
                       ⟨some 71, none, .bin .sub (.t 70) (.c (.int .i64 1))⟩,
                       ⟨some 11, none, .mov (.t 71)⟩])))
def c51b2 : AC := (.seq
              (.seq
               (.reg [⟨some 19, none, .mov (.t 9)⟩,
                ⟨some 20, none, .mov (.t 2)⟩,
                ⟨some 21, none, .bin .lss (.t 19) (.t 20)⟩,
                ⟨some 22, none, .mov (.t 21)⟩,
                ⟨some 23, some (22, true), .mov (.t 3)⟩,
                ⟨some 24, some (22, true), .mov (.t 0)⟩,
                ⟨some 25, some (22, true), .mov (.t 9)⟩,
                ⟨some 26, some (22, true), .iaddr (.slice 1) (.t 24) (.t 25)⟩,
                ⟨some 27, some (22, true), .load 1 false (.t 26)⟩,
                ⟨some 28, some (22, true), .mov (.t 0)⟩,
                ⟨some 29, some (22, true), .mov (.t 9)⟩,
                ⟨some 30, some (22, true), .bin .sub (.t 29) (.c (.int .i64 1))⟩,
                ⟨some 31, some (22, true), .iaddr (.slice 1) (.t 28) (.t 30)⟩,
                ⟨some 32, some (22, true), .load 1 false (.t 31)⟩,
                ⟨some 33, some (22, true), .calld false (.t 23) [(.t 27), (.t 32)]⟩,
                ⟨some 34, some (22, true), .bin .lss (.t 33) (.c (.int .i64 0))⟩,
                ⟨some 35, some (22, true), .un .not (.t 34)⟩,
                ⟨some 36, none, .pick (.t 22) (.t 35) (.c (.bool false))⟩])
               (.cond (.t 36)
                .skip
                (.exit 2)))
              (.block 3
               (.reg [⟨some 37, none, .mov (.t 9)⟩,
                ⟨some 38, none, .bin .add (.t 37) (.c (.int .i64 1))⟩,
                ⟨some 9, none, .mov (.t 38)⟩])))
def c51r0 : AC := (.seq
                (.reg [⟨some 101, none, .mov (.t 2)⟩,
                 ⟨some 102, none, .mov (.t 9)⟩,
                 ⟨some 103, none, .bin .sub (.t 101) (.t 102)⟩,
                 ⟨some 104, none, .bin .geq (.t 103) (.c (.int .i64 2))⟩])
                (.cond (.t 104)
                 (.seq
                  (.reg [⟨some 105, none, .mov (.t 9)⟩,
                   ⟨some 106, none, .bin .add (.t 105) (.c (.int .i64 1))⟩,
                   ⟨some 12, none, .mov (.t 106)⟩])
                  (.block 6
                   (.loop [0, 1, 2, 3, 9, 10, 12]
                    c51b0)))
                 .skip))
def c51r1 : AC := (.seq
            (.seq
             (.reg [⟨some 39, none, .mov (.t 9)⟩,
              ⟨some 40, none, .mov (.t 2)⟩,
              ⟨some 41, none, .bin .eql (.t 39) (.t 40)⟩])
             (.cond (.t 41)
              (.seq
               (.reg [⟨some 8, none, .mov (.c (.bool true))⟩])
               .ret)
              .skip))
            (.seq
             (.seq
              (.reg [⟨some 42, none, .mov (.t 2)⟩,
               ⟨some 43, none, .mov (.t 1)⟩,
               ⟨some 44, none, .bin .sub (.t 42) (.t 43)⟩,
               ⟨some 45, none, .bin .lss (.t 44) (.c (.int .i64 50))⟩])
              (.cond (.t 45)
               (.seq
                (.reg [⟨some 8, none, .mov (.c (.bool false))⟩])
                .ret)
               .skip))
             (.seq
              (.reg [⟨some 46, none, .mov (.t 0)⟩,
               ⟨some 47, none, .mov (.t 9)⟩,
               ⟨some 48, none, .mov (.t 0)⟩,
               ⟨some 49, none, .mov (.t 9)⟩,
               ⟨some 50, none, .bin .sub (.t 49) (.c (.int .i64 1))⟩,
               ⟨some 51, none, .mov (.t 0)⟩,
               ⟨some 52, none, .mov (.t 9)⟩,
               ⟨some 53, none, .bin .sub (.t 52) (.c (.int .i64 1))⟩,
               ⟨some 54, none, .iaddr (.slice 1) (.t 51) (.t 53)⟩,
               ⟨some 55, none, .load 1 false (.t 54)⟩,
               ⟨some 56, none, .mov (.t 0)⟩,
               ⟨some 57, none, .mov (.t 9)⟩,
               ⟨some 58, none, .iaddr (.slice 1) (.t 56) (.t 57)⟩,
               ⟨some 59, none, .load 1 false (.t 58)⟩,
               ⟨some 60, none, .iaddr (.slice 1) (.t 46) (.t 47)⟩,
               ⟨none, none, .store 1 (.t 60) (.t 55)⟩,
               ⟨some 61, none, .iaddr (.slice 1) (.t 48) (.t 50)⟩,
               ⟨none, none, .store 1 (.t 61) (.t 59)⟩])
              (.seq
               (.seq
                (.reg [⟨some 62, none, .mov (.t 9)⟩,
                 ⟨some 63, none, .mov (.t 1)⟩,
                 ⟨some 64, none, .bin .sub (.t 62) (.t 63)⟩,
                 ⟨some 65, none, .bin .geq (.t 64) (.c (.int .i64 2))⟩])
                (.cond (.t 65)
                 (.seq
                  (.reg [⟨some 66, none, .mov (.t 9)⟩,
                   ⟨some 67, none, .bin .sub (.t 66) (.c (.int .i64 1))⟩,
                   ⟨some 11, none, .mov (.t 67)⟩])
                  (.block 4
                   (.loop [0, 1, 2, 3, 9, 10, 11]
                    c51b1)))
                 .skip))
               c51r0))))
def c51b3 : AC := (.seq
        (.seq
         (.reg [⟨some 15, none, .mov (.t 10)⟩,
          ⟨some 16, none, .bin .lss (.t 15) (.c (.int .i64 5))⟩])
         (.cond (.t 16)
          .skip
          (.exit 0)))
        (.seq
         (.block 1
          (.seq
           (.block 2
            (.loop [0, 1, 2, 3, 9, 10]
             c51b2))
           c51r1))
         (.reg [⟨some 17, none, .mov (.t 10)⟩,
          ⟨some 18, none, .bin .add (.t 17) (.c (.int .i64 1))⟩,
          ⟨some 10, none, .mov (.t 18)⟩])))
/-- slices.partialInsertionSortCmpFunc[int] -/
def c51 : AFn := ⟨4, 141, [.t 8],
 (.seq
  (.reg [⟨some 8, none, .mov (.c (.bool false))⟩])
  (.seq
   (.reg [⟨some 13, none, .mov (.t 1)⟩,
    ⟨some 14, none, .bin .add (.t 13) (.c (.int .i64 1))⟩,
    ⟨some 9, none, .mov (.t 14)⟩])
   (.seq
    (.seq
     (.reg [⟨some 10, none, .mov (.c (.int .i64 0))⟩])
     (.block 0
      (.loop [0, 1, 2, 3, 9, 10]
       c51b3)))
    (.seq
     (.reg [⟨some 8, none, .mov (.c (.bool false))⟩])
     .ret)))), none⟩
def k51 : List (List Nat) := [[0, 1, 2, 3, 9, 10], [0, 1, 2, 3, 9, 10], [0, 1, 2, 3, 9, 10, 11], [0, 1, 2, 3, 9, 10, 12]]
def o51 : List Nat := [1000023, 1000027, 1000029, 1000031, 1000032, 1000037, 1000041, 1000042, 1000044, 1000046, 1000047, 1000048, 1000049, 1000050, 1000051, 1000052, 1000053, 1000057, 1000058, 1000059, 1000060, 1000061, 1000062, 1000064, 1000065, 1000066, 1000067, 1000070, 1000071, 1000072, 1000073, 1000074, 1000075, 1000076, 1000077, 1000078, 1000079, 1000080, 1000081, 1000082, 1000083, 1000084, 1000085, 1000086, 1000087, 1000088, 3000000]
def c52b0 : AC := (.seq
             (.seq
              (.reg [⟨some 50, none, .mov (.t 11)⟩,
               ⟨some 51, none, .mov (.t 12)⟩,
               ⟨some 52, none, .bin .leq (.t 50) (.t 51)⟩,
               ⟨some 53, none, .mov (.t 52)⟩,
               ⟨some 54, some (53, true), .mov (.t 4)⟩,
               ⟨some 55, some (53, true), .mov (.t 0)⟩,
               ⟨some 56, some (53, true), .mov (.t 1)⟩,
               ⟨some 57, some (53, true), .iaddr (.slice 1) (.t 55) (.t 56)⟩,
               ⟨some 58, some (53, true), .load 1 false (.t 57)⟩,
               ⟨some 59, some (53, true), .mov (.t 0)⟩,
               ⟨some 60, some (53, true), .mov (.t 12)⟩,
               ⟨some 61, some (53, true), .iaddr (.slice 1) (.t 59) (.t 60)⟩,
               ⟨some 62, some (53, true), .load 1 false (.t 61)⟩,
               ⟨some 63, some (53, true), .calld false (.t 54) [(.t 58), (.t 62)]⟩,
               ⟨some 64, some (53, true), .bin .lss (.t 63) (.c (.int .i64 0))⟩,
               ⟨some 65, none, .pick (.t 53) (.t 64) (.c (.bool false))⟩])
              (.cond (.t 65)
               .skip
               (.exit 4)))
             (.block 5
              (.reg [⟨some 66, none, .mov (.t 12)⟩,
               ⟨some 67, none, .bin .sub (.t 66) (.c (.int .i64 1))⟩,
               ⟨some 12, none, .mov (.t 67)⟩])))
def c52b1 : AC := (.seq
            (.seq
             (.reg [⟨some 31, none, .mov (.t 11)⟩,
              ⟨some 32, none, .mov (.t 12)⟩,
              ⟨some 33, none, .bin .leq (.t 31) (.t 32)⟩,
              ⟨some 34, none, .mov (.t 33)⟩,
              ⟨some 35, some (34, true), .mov (.t 4)⟩,
              ⟨some 36, some (34, true), .mov (.t 0)⟩,
              ⟨some 37, some (34, true), .mov (.t 1)⟩,
              ⟨some 38, some (34, true), .iaddr (.slice 1) (.t 36) (.t 37)⟩,
              ⟨some 39, some (34, true), .load 1 false (.t 38)⟩,
              ⟨some 40, some (34, true), .mov (.t 0)⟩,
              ⟨some 41, some (34, true), .mov (.t 11)⟩,
              ⟨some 42, some (34, true), .iaddr (.slice 1) (.t 40) (.t 41)⟩,
              ⟨some 43, some (34, true), .load 1 false (.t 42)⟩,
              ⟨some 44, some (34, true), .calld false (.t 35) [(.t 39), (.t 43)]⟩,
              ⟨some 45, some (34, true), .bin .lss (.t 44) (.c (.int .i64 0))⟩,
              ⟨some 46, some (34, true), .un .not (.t 45)⟩,
              ⟨some 47, none, .pick (.t 34) (.t 46) (.c (.bool false))⟩])
             (.cond (.t 47)
              .skip
              (.exit 2)))
            (.block 3
             (.reg [⟨some 48, none, .mov (.t 11)⟩,
              ⟨some 49, none, .bin .add (.t 48) (.c (.int .i64 1))⟩,
              ⟨some 11, none, .mov (.t 49)⟩])))
def c52r0 : AC := (.seq
          (.block 4
           (.loop [0, 1, 4, 11, 12]
            c52b0))
          (.seq
           (.seq
            (.reg [⟨some 68, none, .mov (.t 11)⟩,
             ⟨some 69, none, .mov (.t 12)⟩,
             ⟨some 70, none, .bin .gtr (.t 68) (.t 69)⟩])
            (.cond (.t 70)
             (.exit 0)
             .skip))
           (.seq
            (.reg [⟨some 71, none, .mov (.t 0)⟩,
             ⟨some 72, none, .mov (.t 11)⟩,
             ⟨some 73, none, .mov (.t 0)⟩,
             ⟨some 74, none, .mov (.t 12)⟩,
             ⟨some 75, none, .mov (.t 0)⟩,
             ⟨some 76, none, .mov (.t 12)⟩,
             ⟨some 77, none, .iaddr (.slice 1) (.t 75) (.t 76)⟩,
             ⟨some 78, none, .load 1 false (.t 77)⟩,
             ⟨some 79, none, .mov (.t 0)⟩,
             ⟨some 80, none, .mov (.t 11)⟩,
             ⟨some 81, none, .iaddr (.slice 1) (.t 79) (.t 80)⟩,
             ⟨some 82, none, .load 1 false (.t 81)⟩,
             ⟨some 83, none, .iaddr (.slice 1) (.t 71) (.t 72)⟩,
             ⟨none, none, .store 1 (.t 83) (.t 78)⟩,
             ⟨some 84, none, .iaddr (.slice 1) (.t 73) (.t 74)⟩,
             ⟨none, none, .store 1 (.t 84) (.t 82)⟩])
            (.seq
             (.reg [⟨some 85, none, .mov (.t 11)⟩,
              ⟨some 86, none, .bin .add (.t 85) (.c (.int .i64 1))⟩,
              ⟨some 11, none, .mov (.t 86)⟩])
             (.reg [⟨some 87, none, .mov (.t 12)⟩,
              ⟨some 88, none, .bin .sub (.t 87) (.c (.int .i64 1))⟩,
              ⟨some 12, none, .mov (.t 88)⟩])))))
def c52b2 : AC := (.block 1
        (.seq
         (.block 2
          (.loop [0, 1, 4, 11, 12]
           c52b1))
         c52r0))
/-- slices.partitionEqualCmpFunc[int] -/
def c52 : AFn := ⟨5, 90, [.t 10],
 (.seq
  (.reg [⟨some 10, none, .mov (.c (.int .i64 0))⟩])
  (.seq
   (.reg [⟨some 13, none, .mov (.t 0)⟩,
    ⟨some 14, none, .mov (.t 1)⟩,
    ⟨some 15, none, .mov (.t 0)⟩,
    ⟨some 16, none, .mov (.t 3)⟩,
    ⟨some 17, none, .mov (.t 0)⟩,
    ⟨some 18, none, .mov (.t 3)⟩,
    ⟨some 19, none, .iaddr (.slice 1) (.t 17) (.t 18)⟩,
    ⟨some 20, none, .load 1 false (.t 19)⟩,
    ⟨some 21, none, .mov (.t 0)⟩,
    ⟨some 22, none, .mov (.t 1)⟩,
    ⟨some 23, none, .iaddr (.slice 1) (.t 21) (.t 22)⟩,
    ⟨some 24, none, .load 1 false (.t 23)⟩,
    ⟨some 25, none, .iaddr (.slice 1) (.t 13) (.t 14)⟩,
    ⟨none, none, .store 1 (.t 25) (.t 20)⟩,
    ⟨some 26, none, .iaddr (.slice 1) (.t 15) (.t 16)⟩,
    ⟨none, none, .store 1 (.t 26) (.t 24)⟩])
   (.seq
    (.reg [⟨some 27, none, .mov (.t 1)⟩,
     ⟨some 28, none, .bin .add (.t 27) (.c (.int .i64 1))⟩,
     ⟨some 29, none, .mov (.t 2)⟩,
     ⟨some 30, none, .bin .sub (.t 29) (.c (.int .i64 1))⟩,
     ⟨some 11, none, .mov (.t 28)⟩,
     ⟨some 12, none, .mov (.t 30)⟩])
    (.seq
     (.block 0
      (.loop [0, 1, 4, 11, 12]
       c52b2))
     (.seq
      (.reg [⟨some 89, none, .mov (.t 11)⟩,
       ⟨some 10, none, .mov (.t 89)⟩])
      .ret))))), none⟩
def k52 : List (List Nat) := [[0, 1, 4, 11, 12], [0, 1, 4, 11, 12], [0, 1, 4, 11, 12]]
def o52 : List Nat := [1000023, 1000027, 1000029, 1000031, 1000032, 1000037, 1000041, 1000042, 1000044, 1000046, 1000047, 1000048, 1000049, 1000050, 1000051, 1000052, 1000053, 1000057, 1000058, 1000059, 1000060, 1000061, 1000062, 1000064, 1000065, 1000066, 1000067, 1000070, 1000071, 1000072, 1000073, 1000074, 1000075, 1000076, 1000077, 1000078, 1000079, 1000080, 1000081, 1000082, 1000083, 1000084, 1000085, 1000086, 1000087, 1000088, 3000000]
def c53b0 : AC := (.seq
                   (.seq
                    (.reg [⟨some 123, none, .mov (.t 12)⟩,
                     ⟨some 124, none, .mov (.t 13)⟩,
                     ⟨some 125, none, .bin .leq (.t 123) (.t 124)⟩,
                     ⟨some 126, none, .mov (.t 125)⟩,
                     ⟨some 127, some (126, true), .mov (.t 4)⟩,
                     ⟨some 128, some (126, true), .mov (.t 0)⟩,
                     ⟨some 129, some (126, true), .mov (.t 13)⟩,
                     ⟨some 130, some (126, true), .iaddr (.slice 1) (.t 128) (.t 129)⟩,
                     ⟨some 131, some (126, true), .load 1 false (.t 130)⟩,
                     ⟨some 132, some (126, true), .mov (.t 0)⟩,
                     ⟨some 133, some (126, true), .mov (.t 1)⟩,
                     ⟨some 134, some (126, true), .iaddr (.slice 1) (.t 132) (.t 133)⟩,
                     ⟨some 135, some (126, true), .load 1 false (.t 134)⟩,
                     ⟨some 136, some (126, true), .calld false (.t 127) [(.t 131), (.t 135)]⟩,
                     ⟨some 137, some (126, true), .bin .lss (.t 136) (.c (.int .i64 0))⟩,
                     ⟨some 138, some (126, true), .un .not (.t 137)⟩,
                     ⟨some 139, none, .pick (.t 126) (.t 138) (.c (.bool false))⟩])
                    (.cond (.t 139)
                     .skip
                     (.exit 8)))
                   (.block 9
                    (.reg [⟨some 140, none, .mov (.t 13)⟩,
                     ⟨some 141, none, .bin .sub (.t 140) (.c (.int .i64 1))⟩,
                     ⟨some 13, none, .mov (.t 141)⟩])))
def c53b1 : AC := (.seq
                  (.seq
                   (.reg [⟨some 105, none, .mov (.t 12)⟩,
                    ⟨some 106, none, .mov (.t 13)⟩,
                    ⟨some 107, none, .bin .leq (.t 105) (.t 106)⟩,
                    ⟨some 108, none, .mov (.t 107)⟩,
                    ⟨some 109, some (108, true), .mov (.t 4)⟩,
                    ⟨some 110, some (108, true), .mov (.t 0)⟩,
                    ⟨some 111, some (108, true), .mov (.t 12)⟩,
                    ⟨some 112, some (108, true), .iaddr (.slice 1) (.t 110) (.t 111)⟩,
                    ⟨some 113, some (108, true), .load 1 false (.t 112)⟩,
                    ⟨some 114, some (108, true), .mov (.t 0)⟩,
                    ⟨some 115, some (108, true), .mov (.t 1)⟩,
                    ⟨some 116, some (108, true), .iaddr (.slice 1) (.t 114) (.t 115)⟩,
                    ⟨some 117, some (108, true), .load 1 false (.t 116)⟩,
                    ⟨some 118, some (108, true), .calld false (.t 109) [(.t 113), (.t 117)]⟩,
                    ⟨some 119, some (108, true), .bin .lss (.t 118) (.c (.int .i64 0))⟩,
                    ⟨some 120, none, .pick (.t 108) (.t 119) (.c (.bool false))⟩])
                   (.cond (.t 120)
                    .skip
                    (.exit 6)))
                  (.block 7
                   (.reg [⟨some 121, none, .mov (.t 12)⟩,
                    ⟨some 122, none, .bin .add (.t 121) (.c (.int .i64 1))⟩,
                    ⟨some 12, none, .mov (.t 122)⟩])))
def c53r0 : AC := (.seq
                (.block 8
                 (.loop [0, 1, 4, 12, 13]
                  c53b0))
                (.seq
                 (.seq
                  (.reg [⟨some 142, none, .mov (.t 12)⟩,
                   ⟨some 143, none, .mov (.t 13)⟩,
                   ⟨some 144, none, .bin .gtr (.t 142) (.t 143)⟩])
                  (.cond (.t 144)
                   (.exit 4)
                   .skip))
                 (.seq
                  (.reg [⟨some 145, none, .mov (.t 0)⟩,
                   ⟨some 146, none, .mov (.t 12)⟩,
                   ⟨some 147, none, .mov (.t 0)⟩,
                   ⟨some 148, none, .mov (.t 13)⟩,
                   ⟨some 149, none, .mov (.t 0)⟩,
                   ⟨some 150, none, .mov (.t 13)⟩,
                   ⟨some 151, none, .iaddr (.slice 1) (.t 149) (.t 150)⟩,
                   ⟨some 152, none, .load 1 false (.t 151)⟩,
                   ⟨some 153, none, .mov (.t 0)⟩,
                   ⟨some 154, none, .mov (.t 12)⟩,
                   ⟨some 155, none, .iaddr (.slice 1) (.t 153) (.t 154)⟩,
                   ⟨some 156, none, .load 1 false (.t 155)⟩,
                   ⟨some 157, none, .iaddr (.slice 1) (.t 145) (.t 146)⟩,
                   ⟨none, none, .store 1 (.t 157) (.t 152)⟩,
                   ⟨some 158, none, .iaddr (.slice 1) (.t 147) (.t 148)⟩,
                   ⟨none, none, .store 1 (.t 158) (.t 156)⟩])
                  (.seq
                   (.reg [⟨some 159, none, .mov (.t 12)⟩,
                    ⟨some 160, none, .bin .add (.t 159) (.c (.int .i64 1))⟩,
                    ⟨some 12, none, .mov (.t 160)⟩])
                   (.reg [⟨some 161, none, .mov (.t 13)⟩,
                    ⟨some 162, none, .bin .sub (.t 161) (.c (.int .i64 1))⟩,
                    ⟨some 13, none, .mov (.t 162)⟩])))))
def c53b2 : AC := (.block 5
              (.seq
               (.block 6
                (.loop [0, 1, 4, 12, 13]
                 c53b1))
               c53r0))
def c53b3 : AC := (.seq
         (.seq
          (.reg [⟨some 50, none, .mov (.t 12)⟩,
           ⟨some 51, none, .mov (.t 13)⟩,
           ⟨some 52, none, .bin .leq (.t 50) (.t 51)⟩,
           ⟨some 53, none, .mov (.t 52)⟩,
           ⟨some 54, some (53, true), .mov (.t 4)⟩,
           ⟨some 55, some (53, true), .mov (.t 0)⟩,
           ⟨some 56, some (53, true), .mov (.t 13)⟩,
           ⟨some 57, some (53, true), .iaddr (.slice 1) (.t 55) (.t 56)⟩,
           ⟨some 58, some (53, true), .load 1 false (.t 57)⟩,
           ⟨some 59, some (53, true), .mov (.t 0)⟩,
           ⟨some 60, some (53, true), .mov (.t 1)⟩,
           ⟨some 61, some (53, true), .iaddr (.slice 1) (.t 59) (.t 60)⟩,
           ⟨some 62, some (53, true), .load 1 false (.t 61)⟩,
           ⟨some 63, some (53, true), .calld false (.t 54) [(.t 58), (.t 62)]⟩,
           ⟨some 64, some (53, true), .bin .lss (.t 63) (.c (.int .i64 0))⟩,
           ⟨some 65, some (53, true), .un .not (.t 64)⟩,
           ⟨some 66, none, .pick (.t 53) (.t 65) (.c (.bool false))⟩])
          (.cond (.t 66)
           .skip
           (.exit 2)))
         (.block 3
          (.reg [⟨some 67, none, .mov (.t 13)⟩,
           ⟨some 68, none, .bin .sub (.t 67) (.c (.int .i64 1))⟩,
           ⟨some 13, none, .mov (.t 68)⟩])))
def c53b4 : AC := (.seq
        (.seq
         (.reg [⟨some 32, none, .mov (.t 12)⟩,
          ⟨some 33, none, .mov (.t 13)⟩,
          ⟨some 34, none, .bin .leq (.t 32) (.t 33)⟩,
          ⟨some 35, none, .mov (.t 34)⟩,
          ⟨some 36, some (35, true), .mov (.t 4)⟩,
          ⟨some 37, some (35, true), .mov (.t 0)⟩,
          ⟨some 38, some (35, true), .mov (.t 12)⟩,
          ⟨some 39, some (35, true), .iaddr (.slice 1) (.t 37) (.t 38)⟩,
          ⟨some 40, some (35, true), .load 1 false (.t 39)⟩,
          ⟨some 41, some (35, true), .mov (.t 0)⟩,
          ⟨some 42, some (35, true), .mov (.t 1)⟩,
          ⟨some 43, some (35, true), .iaddr (.slice 1) (.t 41) (.t 42)⟩,
          ⟨some 44, some (35, true), .load 1 false (.t 43)⟩,
          ⟨some 45, some (35, true), .calld false (.t 36) [(.t 40), (.t 44)]⟩,
          ⟨some 46, some (35, true), .bin .lss (.t 45) (.c (.int .i64 0))⟩,
          ⟨some 47, none, .pick (.t 35) (.t 46) (.c (.bool false))⟩])
         (.cond (.t 47)
          .skip
          (.exit 0)))
        (.block 1
         (.reg [⟨some 48, none, .mov (.t 12)⟩,
          ⟨some 49, none, .bin .add (.t 48) (.c (.int .i64 1))⟩,
          ⟨some 12, none, .mov (.t 49)⟩])))
def c53r1 : AC := (.seq
       (.seq
        (.reg [⟨some 69, none, .mov (.t 12)⟩,
         ⟨some 70, none, .mov (.t 13)⟩,
         ⟨some 71, none, .bin .gtr (.t 69) (.t 70)⟩])
        (.cond (.t 71)
         (.seq
          (.reg [⟨some 72, none, .mov (.t 0)⟩,
           ⟨some 73, none, .mov (.t 13)⟩,
           ⟨some 74, none, .mov (.t 0)⟩,
           ⟨some 75, none, .mov (.t 1)⟩,
           ⟨some 76, none, .mov (.t 0)⟩,
           ⟨some 77, none, .mov (.t 1)⟩,
           ⟨some 78, none, .iaddr (.slice 1) (.t 76) (.t 77)⟩,
           ⟨some 79, none, .load 1 false (.t 78)⟩,
           ⟨some 80, none, .mov (.t 0)⟩,
           ⟨some 81, none, .mov (.t 13)⟩,
           ⟨some 82, none, .iaddr (.slice 1) (.t 80) (.t 81)⟩,
           ⟨some 83, none, .load 1 false (.t 82)⟩,
           ⟨some 84, none, .iaddr (.slice 1) (.t 72) (.t 73)⟩,
           ⟨none, none, .store 1 (.t 84) (.t 79)⟩,
           ⟨some 85, none, .iaddr (.slice 1) (.t 74) (.t 75)⟩,
           ⟨none, none, .store 1 (.t 85) (.t 83)⟩])
          (.seq
           (.reg [⟨some 86, none, .mov (.t 13)⟩,
            ⟨some 10, none, .mov (.t 86)⟩,
            ⟨some 11, none, .mov (.c (.bool true))⟩])
           .ret))
         .skip))
       (.seq
        (.reg [⟨some 87, none, .mov (.t 0)⟩,
         ⟨some 88, none, .mov (.t 12)⟩,
         ⟨some 89, none, .mov (.t 0)⟩,
         ⟨some 90, none, .mov (.t 13)⟩,
         ⟨some 91, none, .mov (.t 0)⟩,
         ⟨some 92, none, .mov (.t 13)⟩,
         ⟨some 93, none, .iaddr (.slice 1) (.t 91) (.t 92)⟩,
         ⟨some 94, none, .load 1 false (.t 93)⟩,
         ⟨some 95, none, .mov (.t 0)⟩,
         ⟨some 96, none, .mov (.t 12)⟩,
         ⟨some 97, none, .iaddr (.slice 1) (.t 95) (.t 96)⟩,
         ⟨some 98, none, .load 1 false (.t 97)⟩,
         ⟨some 99, none, .iaddr (.slice 1) (.t 87) (.t 88)⟩,
         ⟨none, none, .store 1 (.t 99) (.t 94)⟩,
         ⟨some 100, none, .iaddr (.slice 1) (.t 89) (.t 90)⟩,
         ⟨none, none, .store 1 (.t 100) (.t 98)⟩])
        (.seq
         (.reg [⟨some 101, none, .mov (.t 12)⟩,
          ⟨some 102, none, .bin .add (.t 101) (.c (.int .i64 1))⟩,
          ⟨some 12, none, .mov (.t 102)⟩])
         (.seq
          (.reg [⟨some 103, none, .mov (.t 13)⟩,
           ⟨some 104, none, .bin .sub (.t 103) (.c (.int .i64 1))⟩,
           ⟨some 13, none, .mov (.t 104)⟩])
          (.seq
           (.block 4
            (.loop [0, 1, 4, 12, 13]
             c53b2))
           (.seq
            (.reg [⟨some 163, none, .mov (.t 0)⟩,
             ⟨some 164, none, .mov (.t 13)⟩,
             ⟨some 165, none, .mov (.t 0)⟩,
             ⟨some 166, none, .mov (.t 1)⟩,
             ⟨some 167, none, .mov (.t 0)⟩,
             ⟨some 168, none, .mov (.t 1)⟩,
             ⟨some 169, none, .iaddr (.slice 1) (.t 167) (.t 168)⟩,
             ⟨some 170, none, .load 1 false (.t 169)⟩,
             ⟨some 171, none, .mov (.t 0)⟩,
             ⟨some 172, none, .mov (.t 13)⟩,
             ⟨some 173, none, .iaddr (.slice 1) (.t 171) (.t 172)⟩,
             ⟨some 174, none, .load 1 false (.t 173)⟩,
             ⟨some 175, none, .iaddr (.slice 1) (.t 163) (.t 164)⟩,
             ⟨none, none, .store 1 (.t 175) (.t 170)⟩,
             ⟨some 176, none, .iaddr (.slice 1) (.t 165) (.t 166)⟩,
             ⟨none, none, .store 1 (.t 176) (.t 174)⟩])
            (.seq
             (.reg [⟨some 177, none, .mov (.t 13)⟩,
              ⟨some 10, none, .mov (.t 177)⟩,
              ⟨some 11, none, .mov (.c (.bool false))⟩])
             .ret)))))))
def c53r2 : AC := (.seq
      (.block 2
       (.loop [0, 1, 4, 12, 13]
        c53b3))
      c53r1)
/-- slices.partitionCmpFunc[int] -/
def c53 : AFn := ⟨5, 178, [.t 10, .t 11],
 (.seq
  (.reg [⟨some 10, none, .mov (.c (.int .i64 0))⟩,
   ⟨some 11, none, .mov (.c (.bool false))⟩])
  (.seq
   (.reg [⟨some 14, none, .mov (.t 0)⟩,
    ⟨some 15, none, .mov (.t 1)⟩,
    ⟨some 16, none, .mov (.t 0)⟩,
    ⟨some 17, none, .mov (.t 3)⟩,
    ⟨some 18, none, .mov (.t 0)⟩,
    ⟨some 19, none, .mov (.t 3)⟩,
    ⟨some 20, none, .iaddr (.slice 1) (.t 18) (.t 19)⟩,
    ⟨some 21, none, .load 1 false (.t 20)⟩,
    ⟨some 22, none, .mov (.t 0)⟩,
    ⟨some 23, none, .mov (.t 1)⟩,
    ⟨some 24, none, .iaddr (.slice 1) (.t 22) (.t 23)⟩,
    ⟨some 25, none, .load 1 false (.t 24)⟩,
    ⟨some 26, none, .iaddr (.slice 1) (.t 14) (.t 15)⟩,
    ⟨none, none, .store 1 (.t 26) (.t 21)⟩,
    ⟨some 27, none, .iaddr (.slice 1) (.t 16) (.t 17)⟩,
    ⟨none, none, .store 1 (.t 27) (.t 25)⟩])
   (.seq
    (.reg [⟨some 28, none, .mov (.t 1)⟩,
     ⟨some 29, none, .bin .add (.t 28) (.c (.int .i64 1))⟩,
     ⟨some 30, none, .mov (.t 2)⟩,
     ⟨some 31, none, .bin .sub (.t 30) (.c (.int .i64 1))⟩,
     ⟨some 12, none, .mov (.t 29)⟩,
     ⟨some 13, none, .mov (.t 31)⟩])
    (.seq
     (.block 0
      (.loop [0, 1, 4, 12, 13]
       c53b4))
     c53r2)))), none⟩
def k53 : List (List Nat) := [[0, 1, 4, 12, 13], [0, 1, 4, 12, 13], [0, 1, 4, 12, 13], [0, 1, 4, 12, 13], [0, 1, 4, 12, 13]]
def o53 : List Nat := [1000023, 1000027, 1000029, 1000031, 1000032, 1000037, 1000041, 1000042, 1000044, 1000046, 1000047, 1000048, 1000049, 1000050, 1000051, 1000052, 1000053, 1000057, 1000058, 1000059, 1000060, 1000061, 1000062, 1000064, 1000065, 1000066, 1000067, 1000070, 1000071, 1000072, 1000073, 1000074, 1000075, 1000076, 1000077, 1000078, 1000079, 1000080, 1000081, 1000082, 1000083, 1000084, 1000085, 1000086, 1000087, 1000088, 3000000]
/-- math/bits.Len32 -/
def c54 : AFn := ⟨1, 19, [.t 2],
 (.seq
  (.reg [⟨some 2, none, .mov (.c (.int .i64 0))⟩])
  (.seq
   (.seq
    (.reg [⟨some 3, none, .mov (.t 0)⟩,
     ⟨some 4, none, .bin .geq (.t 3) (.c (.int .u32 65536))⟩])
    (.cond (.t 4)
     (.seq
      (.reg [⟨some 5, none, .mov (.t 0)⟩,
       ⟨some 6, none, .bin .shr (.t 5) (.c (.int .u64 16))⟩,
       ⟨some 0, none, .mov (.t 6)⟩])
      (.reg [⟨some 2, none, .mov (.c (.int .i64 16))⟩]))
     .skip))
   (.seq
    (.seq
     (.reg [⟨some 7, none, .mov (.t 0)⟩,
      ⟨some 8, none, .bin .geq (.t 7) (.c (.int .u32 256))⟩])
     (.cond (.t 8)
      (.seq
       (.reg [⟨some 9, none, .mov (.t 0)⟩,
        ⟨some 10, none, .bin .shr (.t 9) (.c (.int .u64 8))⟩,
        ⟨some 0, none, .mov (.t 10)⟩])
       (.reg [⟨some 11, none, .mov (.t 2)⟩,
        ⟨some 12, none, .bin .add (.t 11) (.c (.int .i64 8))⟩,
        ⟨some 2, none, .mov (.t 12)⟩]))
      .skip))
    (.seq
     (.reg [⟨some 13, none, .mov (.t 2)⟩,
      ⟨some 14, none, .mov (.t 0)⟩,
      ⟨some 15, none, .conv (.int .u8) (.t 14)⟩,
      ⟨some 16, none, .idxS (.c (.str [0, 1, 2, 2, 3, 3, 3, 3, 4, 4, 4, 4, 4, 4, 4, 4, 5, 5, 5, 5, 5, 5, 5, 5, 5, 5, 5, 5, 5, 5, 5, 5, 6, 6, 6, 6, 6, 6, 6, 6, 6, 6, 6, 6, 6, 6, 6, 6, 6, 6, 6, 6, 6, 6, 6, 6, 6, 6, 6, 6, 6, 6, 6, 6, 7, 7, 7, 7, 7, 7, 7, 7, 7, 7, 7, 7, 7, 7, 7, 7, 7, 7, 7, 7, 7, 7, 7, 7, 7, 7, 7, 7, 7, 7, 7, 7, 7, 7, 7, 7, 7, 7, 7, 7, 7, 7, 7, 7, 7, 7, 7, 7, 7, 7, 7, 7, 7, 7, 7, 7, 7, 7, 7, 7, 7, 7, 7, 7, 8, 8, 8, 8, 8, 8, 8, 8, 8, 8, 8, 8, 8, 8, 8, 8, 8, 8, 8, 8, 8, 8, 8, 8, 8, 8, 8, 8, 8, 8, 8, 8, 8, 8, 8, 8, 8, 8, 8, 8, 8, 8, 8, 8, 8, 8, 8, 8, 8, 8, 8, 8, 8, 8, 8, 8, 8, 8, 8, 8, 8, 8, 8, 8, 8, 8, 8, 8, 8, 8, 8, 8, 8, 8, 8, 8, 8, 8, 8, 8, 8, 8, 8, 8, 8, 8, 8, 8, 8, 8, 8, 8, 8, 8, 8, 8, 8, 8, 8, 8, 8, 8, 8, 8, 8, 8, 8, 8, 8, 8, 8, 8, 8, 8, 8, 8, 8, 8, 8, 8, 8, 8, 8, 8, 8, 8, 8, 8])) (.t 15)⟩,
      ⟨some 17, none, .conv (.int .i64) (.t 16)⟩,
      ⟨some 18, none, .bin .add (.t 13) (.t 17)⟩,
      ⟨some 2, none, .mov (.t 18)⟩])
     .ret)))), none⟩
def k54 : List (List Nat) := []
def o54 : List Nat := [1000023, 1000027, 1000029, 1000031, 1000032, 1000037, 1000041, 1000042, 1000044, 1000046, 1000047, 1000048, 1000049, 1000050, 1000051, 1000052, 1000053, 1000057, 1000058, 1000059, 1000060, 1000061, 1000062, 1000064, 1000065, 1000066, 1000067, 1000070, 1000071, 1000072, 1000073, 1000074, 1000075, 1000076, 1000077, 1000078, 1000079, 1000080, 1000081, 1000082, 1000083, 1000084, 1000085, 1000086, 1000087, 1000088, 3000000]
/-- math/bits.Len64 -/
def c55 : AFn := ⟨1, 25, [.t 2],
 (.seq
  (.reg [⟨some 2, none, .mov (.c (.int .i64 0))⟩])
  (.seq
   (.seq
    (.reg [⟨some 3, none, .mov (.t 0)⟩,
     ⟨some 4, none, .bin .geq (.t 3) (.c (.int .u64 4294967296))⟩])
    (.cond (.t 4)
     (.seq
      (.reg [⟨some 5, none, .mov (.t 0)⟩,
       ⟨some 6, none, .bin .shr (.t 5) (.c (.int .u64 32))⟩,
       ⟨some 0, none, .mov (.t 6)⟩])
      (.reg [⟨some 2, none, .mov (.c (.int .i64 32))⟩]))
     .skip))
   (.seq
    (.seq
     (.reg [⟨some 7, none, .mov (.t 0)⟩,
      ⟨some 8, none, .bin .geq (.t 7) (.c (.int .u64 65536))⟩])
     (.cond (.t 8)
      (.seq
       (.reg [⟨some 9, none, .mov (.t 0)⟩,
        ⟨some 10, none, .bin .shr (.t 9) (.c (.int .u64 16))⟩,
        ⟨some 0, none, .mov (.t 10)⟩])
       (.reg [⟨some 11, none, .mov (.t 2)⟩,
        ⟨some 12, none, .bin .add (.t 11) (.c (.int .i64 16))⟩,
        ⟨some 2, none, .mov (.t 12)⟩]))
      .skip))
    (.seq
     (.seq
      (.reg [⟨some 13, none, .mov (.t 0)⟩,
       ⟨some 14, none, .bin .geq (.t 13) (.c (.int .u64 256))⟩])
      (.cond (.t 14)
       (.seq
        (.reg [⟨some 15, none, .mov (.t 0)⟩,
         ⟨some 16, none, .bin .shr (.t 15) (.c (.int .u64 8))⟩,
         ⟨some 0, none, .mov (.t 16)⟩])
        (.reg [⟨some 17, none, .mov (.t 2)⟩,
         ⟨some 18, none, .bin .add (.t 17) (.c (.int .i64 8))⟩,
         ⟨some 2, none, .mov (.t 18)⟩]))
       .skip))
     (.seq
      (.reg [⟨some 19, none, .mov (.t 2)⟩,
       ⟨some 20, none, .mov (.t 0)⟩,
       ⟨some 21, none, .conv (.int .u8) (.t 20)⟩,
       ⟨some 22, none, .idxS (.c (.str [0, 1, 2, 2, 3, 3, 3, 3, 4, 4, 4, 4, 4, 4, 4, 4, 5, 5, 5, 5, 5, 5, 5, 5, 5, 5, 5, 5, 5, 5, 5, 5, 6, 6, 6, 6, 6, 6, 6, 6, 6, 6, 6, 6, 6, 6, 6, 6, 6, 6, 6, 6, 6, 6, 6, 6, 6, 6, 6, 6, 6, 6, 6, 6, 7, 7, 7, 7, 7, 7, 7, 7, 7, 7, 7, 7, 7, 7, 7, 7, 7, 7, 7, 7, 7, 7, 7, 7, 7, 7, 7, 7, 7, 7, 7, 7, 7, 7, 7, 7, 7, 7, 7, 7, 7, 7, 7, 7, 7, 7, 7, 7, 7, 7, 7, 7, 7, 7, 7, 7, 7, 7, 7, 7, 7, 7, 7, 7, 8, 8, 8, 8, 8, 8, 8, 8, 8, 8, 8, 8, 8, 8, 8, 8, 8, 8, 8, 8, 8, 8, 8, 8, 8, 8, 8, 8, 8, 8, 8, 8, 8, 8, 8, 8, 8, 8, 8, 8, 8, 8, 8, 8, 8, 8, 8, 8, 8, 8, 8, 8, 8, 8, 8, 8, 8, 8, 8, 8, 8, 8, 8, 8, 8, 8, 8, 8, 8, 8, 8, 8, 8, 8, 8, 8, 8, 8, 8, 8, 8, 8, 8, 8, 8, 8, 8, 8, 8, 8, 8, 8, 8, 8, 8, 8, 8, 8, 8, 8, 8, 8, 8, 8, 8, 8, 8, 8, 8, 8, 8, 8, 8, 8, 8, 8, 8, 8, 8, 8, 8, 8, 8, 8, 8, 8, 8, 8])) (.t 21)⟩,
       ⟨some 23, none, .conv (.int .i64) (.t 22)⟩,
       ⟨some 24, none, .bin .add (.t 19) (.t 23)⟩,
       ⟨some 2, none, .mov (.t 24)⟩])
      .ret))))), none⟩
def k55 : List (List Nat) := []
def o55 : List Nat := [1000023, 1000027, 1000029, 1000031, 1000032, 1000037, 1000041, 1000042, 1000044, 1000046, 1000047, 1000048, 1000049, 1000050, 1000051, 1000052, 1000053, 1000057, 1000058, 1000059, 1000060, 1000061, 1000062, 1000064, 1000065, 1000066, 1000067, 1000070, 1000071, 1000072, 1000073, 1000074, 1000075, 1000076, 1000077, 1000078, 1000079, 1000080, 1000081, 1000082, 1000083, 1000084, 1000085, 1000086, 1000087, 1000088, 3000000]
/-- tracebook/itree.meets -/
def c56 : AFn := ⟨2, 25, [.t 4],
 (.seq
  (.reg [⟨some 2, none, .box (.t 0)⟩,
   ⟨some 3, none, .box (.t 1)⟩,
   ⟨some 4, none, .mov (.c (.bool false))⟩])
  (.seq
   (.reg [⟨some 5, none, .load 2 true (.t 2)⟩,
    ⟨some 6, none, .call false 43 [(.t 5)]⟩,
    ⟨some 7, none, .mov (.t 6)⟩,
    ⟨some 8, some (7, true), .load 2 true (.t 3)⟩,
    ⟨some 9, some (7, true), .call false 43 [(.t 8)]⟩,
    ⟨some 10, none, .pick (.t 7) (.t 9) (.c (.bool false))⟩,
    ⟨some 11, none, .mov (.t 10)⟩,
    ⟨some 12, some (11, true), .faddr 0 (.t 2)⟩,
    ⟨some 13, some (11, true), .load 1 false (.t 12)⟩,
    ⟨some 14, some (11, true), .faddr 1 (.t 3)⟩,
    ⟨some 15, some (11, true), .load 1 false (.t 14)⟩,
    ⟨some 16, some (11, true), .bin .lss (.t 13) (.t 15)⟩,
    ⟨some 17, none, .pick (.t 11) (.t 16) (.c (.bool false))⟩,
    ⟨some 18, none, .mov (.t 17)⟩,
    ⟨some 19, some (18, true), .faddr 0 (.t 3)⟩,
    ⟨some 20, some (18, true), .load 1 false (.t 19)⟩,
    ⟨some 21, some (18, true), .faddr 1 (.t 2)⟩,
    ⟨some 22, some (18, true), .load 1 false (.t 21)⟩,
    ⟨some 23, some (18, true), .bin .lss (.t 20) (.t 22)⟩,
    ⟨some 24, none, .pick (.t 18) (.t 23) (.c (.bool false))⟩,
    ⟨some 4, none, .mov (.t 24)⟩])
   .ret)), none⟩
def k56 : List (List Nat) := []
def o56 : List Nat := [1000023, 1000027, 1000029, 1000031, 1000032, 1000037, 1000041, 1000042, 1000044, 1000046, 1000047, 1000048, 1000049, 1000050, 1000051, 1000052, 1000053, 1000057, 1000058, 1000059, 1000060, 1000061, 1000062, 1000064, 1000065, 1000066, 1000067, 1000070, 1000071, 1000072, 1000073, 1000074, 1000075, 1000076, 1000077, 1000078, 1000079, 1000080, 1000081, 1000082, 1000083, 1000084, 1000085, 1000086, 1000087, 1000088, 3000000]
def c57b0 : AC := (.seq
           (.seq
            (.reg [⟨some 16, none, .mov (.t 7)⟩,
             ⟨some 17, none, .mov (.t 1)⟩,
             ⟨some 18, none, .bin .gtr (.t 16) (.t 17)⟩,
             ⟨some 19, none, .mov (.t 18)⟩,
             ⟨some 20, some (19, true), .mov (.t 0)⟩,
             ⟨some 21, some (19, true), .mov (.t 7)⟩,
             ⟨some 22, some (19, true), .iaddr (.slice 1) (.t 20) (.t 21)⟩,
             ⟨some 23, some (19, true), .load 1 false (.t 22)⟩,
             ⟨some 24, some (19, true), .mov (.t 0)⟩,
             ⟨some 25, some (19, true), .mov (.t 7)⟩,
             ⟨some 26, some (19, true), .bin .sub (.t 25) (.c (.int .i64 1))⟩,
             ⟨some 27, some (19, true), .iaddr (.slice 1) (.t 24) (.t 26)⟩,
             ⟨some 28, some (19, true), .load 1 false (.t 27)⟩,
             ⟨some 29, some (19, true), .call false 63 [(.t 23), (.t 28)]⟩,
             ⟨some 30, none, .pick (.t 19) (.t 29) (.c (.bool false))⟩])
            (.cond (.t 30)
             .skip
             (.exit 2)))
           (.seq
            (.block 3
             (.reg [⟨some 33, none, .mov (.t 0)⟩,
              ⟨some 34, none, .mov (.t 7)⟩,
              ⟨some 35, none, .mov (.t 0)⟩,
              ⟨some 36, none, .mov (.t 7)⟩,
              ⟨some 37, none, .bin .sub (.t 36) (.c (.int .i64 1))⟩,
              ⟨some 38, none, .mov (.t 0)⟩,
              ⟨some 39, none, .mov (.t 7)⟩,
              ⟨some 40, none, .bin .sub (.t 39) (.c (.int .i64 1))⟩,
              ⟨some 41, none, .iaddr (.slice 1) (.t 38) (.t 40)⟩,
              ⟨some 42, none, .load 1 false (.t 41)⟩,
              ⟨some 43, none, .mov (.t 0)⟩,
              ⟨some 44, none, .mov (.t 7)⟩,
              ⟨some 45, none, .iaddr (.slice 1) (.t 43) (.t 44)⟩,
              ⟨some 46, none, .load 1 false (.t 45)⟩,
              ⟨some 47, none, .iaddr (.slice 1) (.t 33) (.t 34)⟩,
              ⟨none, none, .store 1 (.t 47) (.t 42)⟩,
              ⟨some 48, none, .iaddr (.slice 1) (.t 35) (.t 37)⟩,
              ⟨none, none, .store 1 (.t 48) (.t 46)⟩]))
            (.reg [⟨some 31, none, .mov (.t 7)⟩,
             ⟨some 32, none, .bin .sub (.t 31) (.c (.int .i64 1))⟩,
             ⟨some 7, none, .mov (.t 32)⟩])))
def c57b1 : AC := (.seq
     (.seq
      (.reg [⟨some 10, none, .mov (.t 6)⟩,
       ⟨some 11, none, .mov (.t 2)⟩,
       ⟨some 12, none, .bin .lss (.t 10) (.t 11)⟩])
      (.cond (.t 12)
       .skip
       (.exit 0)))
     (.seq
      (.block 1
       (.seq
        (.reg [⟨some 15, none, .mov (.t 6)⟩,
         ⟨some 7, none, .mov (.t 15)⟩])
        (.block 2
         (.loop [0, 1, 2, 6, 7]
          c57b0))))
      (.reg [⟨some 13, none, .mov (.t 6)⟩,
       ⟨some 14, none, .bin .add (.t 13) (.c (.int .i64 1))⟩,
       ⟨some 6, none, .mov (.t 14)⟩])))
/-- slices.insertionSortOrdered[int] -/
def c57 : AFn := ⟨3, 49, [],
 (.seq
  (.reg [⟨some 8, none, .mov (.t 1)⟩,
   ⟨some 9, none, .bin .add (.t 8) (.c (.int .i64 1))⟩,
   ⟨some 6, none, .mov (.t 9)⟩])
  (.block 0
   (.loop [0, 1, 2, 6]
    c57b1))), none⟩
def k57 : List (List Nat) := [[0, 1, 2, 6], [0, 1, 2, 6, 7]]
def o57 : List Nat := [1000023, 1000027, 1000029, 1000031, 1000032, 1000037, 1000041, 1000042, 1000044, 1000046, 1000047, 1000048, 1000049, 1000050, 1000051, 1000052, 1000053, 1000057, 1000058, 1000059, 1000060, 1000061, 1000062, 1000064, 1000065, 1000066, 1000067, 1000070, 1000071, 1000072, 1000073, 1000074, 1000075, 1000076, 1000077, 1000078, 1000079, 1000080, 1000081, 1000082, 1000083, 1000084, 1000085, 1000086, 1000087, 1000088, 3000000]
def c58b0 : AC := (.seq
         (.seq
          (.reg [⟨some 29, none, .mov (.t 10)⟩,
           ⟨some 30, none, .bin .geq (.t 29) (.c (.int .i64 0))⟩])
          (.cond (.t 30)
           .skip
           (.exit 2)))
         (.seq
          (.block 3
           (.seq
            (.reg [⟨some 33, none, .mov (.t 0)⟩,
             ⟨some 34, none, .mov (.t 6)⟩,
             ⟨some 35, none, .mov (.t 0)⟩,
             ⟨some 36, none, .mov (.t 6)⟩,
             ⟨some 37, none, .mov (.t 10)⟩,
             ⟨some 38, none, .bin .add (.t 36) (.t 37)⟩,
             ⟨some 39, none, .mov (.t 0)⟩,
             ⟨some 40, none, .mov (.t 6)⟩,
             ⟨some 41, none, .mov (.t 10)⟩,
             ⟨some 42, none, .bin .add (.t 40) (.t 41)⟩,
             ⟨some 43, none, .iaddr (.slice 1) (.t 39) (.t 42)⟩,
             ⟨some 44, none, .load 1 false (.t 43)⟩,
             ⟨some 45, none, .mov (.t 0)⟩,
             ⟨some 46, none, .mov (.t 6)⟩,
             ⟨some 47, none, .iaddr (.slice 1) (.t 45) (.t 46)⟩,
             ⟨some 48, none, .load 1 false (.t 47)⟩,
             ⟨some 49, none, .iaddr (.slice 1) (.t 33) (.t 34)⟩,
             ⟨none, none, .store 1 (.t 49) (.t 44)⟩,
             ⟨some 50, none, .iaddr (.slice 1) (.t 35) (.t 38)⟩,
             ⟨none, none, .store 1 (.t 50) (.t 48)⟩])
            (.reg [⟨some 51, none, .mov (.t 0)⟩,
             ⟨some 52, none, .mov (.t 7)⟩,
             ⟨some 53, none, .mov (.t 10)⟩,
             ⟨some 54, none, .mov (.t 6)⟩,
             ⟨some 55, none, .callS 72 [(.t 51), (.t 52), (.t 53), (.t 54)]⟩])))
          (.reg [⟨some 31, none, .mov (.t 10)⟩,
           ⟨some 32, none, .bin .sub (.t 31) (.c (.int .i64 1))⟩,
           ⟨some 10, none, .mov (.t 32)⟩])))
def c58b1 : AC := (.seq
         (.seq
          (.reg [⟨some 18, none, .mov (.t 9)⟩,
           ⟨some 19, none, .bin .geq (.t 18) (.c (.int .i64 0))⟩])
          (.cond (.t 19)
           .skip
           (.exit 0)))
         (.seq
          (.block 1
           (.reg [⟨some 22, none, .mov (.t 0)⟩,
            ⟨some 23, none, .mov (.t 9)⟩,
            ⟨some 24, none, .mov (.t 8)⟩,
            ⟨some 25, none, .mov (.t 6)⟩,
            ⟨some 26, none, .callS 72 [(.t 22), (.t 23), (.t 24), (.t 25)]⟩]))
          (.reg [⟨some 20, none, .mov (.t 9)⟩,
           ⟨some 21, none, .bin .sub (.t 20) (.c (.int .i64 1))⟩,
           ⟨some 9, none, .mov (.t 21)⟩])))
def c58r0 : AC := (.seq
      (.reg [⟨some 27, none, .mov (.t 8)⟩,
       ⟨some 28, none, .bin .sub (.t 27) (.c (.int .i64 1))⟩,
       ⟨some 10, none, .mov (.t 28)⟩])
      (.block 2
       (.loop [0, 6, 7, 10]
        c58b0)))
/-- slices.heapSortOrdered[int] -/
def c58 : AFn := ⟨3, 56, [],
 (.seq
  (.reg [⟨some 11, none, .mov (.t 1)⟩,
   ⟨some 6, none, .mov (.t 11)⟩])
  (.seq
   (.reg [⟨some 7, none, .mov (.c (.int .i64 0))⟩])
   (.seq
    (.reg [⟨some 12, none, .mov (.t 2)⟩,
     ⟨some 13, none, .mov (.t 1)⟩,
     ⟨some 14, none, .bin .sub (.t 12) (.t 13)⟩,
     ⟨some 8, none, .mov (.t 14)⟩])
    (.seq
     (.seq
      (.reg [⟨some 15, none, .mov (.t 8)⟩,
       ⟨some 16, none, .bin .sub (.t 15) (.c (.int .i64 1))⟩,
       ⟨some 17, none, .bin .quo (.t 16) (.c (.int .i64 2))⟩,
       ⟨some 9, none, .mov (.t 17)⟩])
      (.block 0
       (.loop [0, 6, 7, 8, 9]
        c58b1)))
     c58r0)))), none⟩
def k58 : List (List Nat) := [[0, 6, 7, 8, 9], [0, 6, 7, 10]]
def o58 : List Nat := [1000023, 1000027, 1000029, 1000031, 1000032, 1000037, 1000041, 1000042, 1000044, 1000046, 1000047, 1000048, 1000049, 1000050, 1000051, 1000052, 1000053, 1000057, 1000058, 1000059, 1000060, 1000061, 1000062, 1000064, 1000065, 1000066, 1000067, 1000070, 1000071, 1000072, 1000073, 1000074, 1000075, 1000076, 1000077, 1000078, 1000079, 1000080, 1000081, 1000082, 1000083, 1000084, 1000085, 1000086, 1000087, 1000088, 3000000]
def c59b0 : AC := (.seq
          (.seq
           (.reg [⟨some 26, none, .mov (.t 9)⟩,
            ⟨some 27, none, .mov (.t 1)⟩,
            ⟨some 28, none, .mov (.t 6)⟩,
            ⟨some 29, none, .bin .quo (.t 28) (.c (.int .i64 4))⟩,
            ⟨some 30, none, .bin .mul (.t 29) (.c (.int .i64 2))⟩,
            ⟨some 31, none, .bin .add (.t 27) (.t 30)⟩,
            ⟨some 32, none, .bin .add (.t 31) (.c (.int .i64 1))⟩,
            ⟨some 33, none, .bin .leq (.t 26) (.t 32)⟩])
           (.cond (.t 33)
            .skip
            (.exit 0)))
          (.seq
           (.block 1
            (.seq
             (.reg [⟨some 36, none, .call false 69 [(.t 7)]⟩,
              ⟨some 37, none, .mov (.t 8)⟩,
              ⟨some 38, none, .bin .sub (.t 37) (.c (.int .u64 1))⟩,
              ⟨some 39, none, .bin .and (.t 36) (.t 38)⟩,
              ⟨some 40, none, .conv (.int .i64) (.t 39)⟩,
              ⟨some 10, none, .mov (.t 40)⟩])
             (.seq
              (.seq
               (.reg [⟨some 41, none, .mov (.t 10)⟩,
                ⟨some 42, none, .mov (.t 6)⟩,
                ⟨some 43, none, .bin .geq (.t 41) (.t 42)⟩])
               (.cond (.t 43)
                (.reg [⟨some 44, none, .mov (.t 10)⟩,
                 ⟨some 45, none, .mov (.t 6)⟩,
                 ⟨some 46, none, .bin .sub (.t 44) (.t 45)⟩,
                 ⟨some 10, none, .mov (.t 46)⟩])
                .skip))
              (.reg [⟨some 47, none, .mov (.t 0)⟩,
               ⟨some 48, none, .mov (.t 9)⟩,
               ⟨some 49, none, .mov (.t 0)⟩,
               ⟨some 50, none, .mov (.t 1)⟩,
               ⟨some 51, none, .mov (.t 10)⟩,
               ⟨some 52, none, .bin .add (.t 50) (.t 51)⟩,
               ⟨some 53, none, .mov (.t 0)⟩,
               ⟨some 54, none, .mov (.t 1)⟩,
               ⟨some 55, none, .mov (.t 10)⟩,
               ⟨some 56, none, .bin .add (.t 54) (.t 55)⟩,
               ⟨some 57, none, .iaddr (.slice 1) (.t 53) (.t 56)⟩,
               ⟨some 58, none, .load 1 false (.t 57)⟩,
               ⟨some 59, none, .mov (.t 0)⟩,
               ⟨some 60, none, .mov (.t 9)⟩,
               ⟨some 61, none, .iaddr (.slice 1) (.t 59) (.t 60)⟩,
               ⟨some 62, none, .load 1 false (.t 61)⟩,
               ⟨some 63, none, .iaddr (.slice 1) (.t 47) (.t 48)⟩,
               ⟨none, none, .store 1 (.t 63) (.t 58)⟩,
               ⟨some 64, none, .iaddr (.slice 1) (.t 49) (.t 52)⟩,
               ⟨none, none, .store 1 (.t 64) (.t 62)⟩]))))
           (.reg [⟨some 34, none, .mov (.t 9)⟩,
            ⟨some 35, none, .bin .add (.t 34) (.c (.int .i64 1))⟩,
            ⟨some 9, none, .mov (.t 35)⟩])))
/-- slices.breakPatternsOrdered[int] -/
def c59 : AFn := ⟨3, 65, [],
 (.seq
  (.reg [⟨some 11, none, .mov (.t 2)⟩,
   ⟨some 12, none, .mov (.t 1)⟩,
   ⟨some 13, none, .bin .sub (.t 11) (.t 12)⟩,
   ⟨some 6, none, .mov (.t 13)⟩])
  (.seq
   (.reg [⟨some 14, none, .mov (.t 6)⟩,
    ⟨some 15, none, .bin .geq (.t 14) (.c (.int .i64 8))⟩])
   (.cond (.t 15)
    (.seq
     (.reg [⟨some 16, none, .mov (.t 6)⟩,
      ⟨some 17, none, .conv (.int .u64) (.t 16)⟩,
      ⟨some 7, none, .alloc [(.int .u64 0)]⟩,
      ⟨none, none, .store 1 (.t 7) (.t 17)⟩])
     (.seq
      (.reg [⟨some 18, none, .mov (.t 6)⟩,
       ⟨some 19, none, .call false 68 [(.t 18)]⟩,
       ⟨some 8, none, .mov (.t 19)⟩])
      (.seq
       (.reg [⟨some 20, none, .mov (.t 1)⟩,
        ⟨some 21, none, .mov (.t 6)⟩,
        ⟨some 22, none, .bin .quo (.t 21) (.c (.int .i64 4))⟩,
        ⟨some 23, none, .bin .mul (.t 22) (.c (.int .i64 2))⟩,
        ⟨some 24, none, .bin .add (.t 20) (.t 23)⟩,
        ⟨some 25, none, .bin .sub (.t 24) (.c (.int .i64 1))⟩,
        ⟨some 9, none, .mov (.t 25)⟩])
       (.block 0
        (.loop [0, 1, 6, 7, 8, 9]
         c59b0)))))
    .skip))), none⟩
def k59 : List (List Nat) := [[0, 1, 6, 7, 8, 9]]
def o59 : List Nat := [1000023, 1000027, 1000029, 1000031, 1000032, 1000037, 1000041, 1000042, 1000044, 1000046, 1000047, 1000048, 1000049, 1000050, 1000051, 1000052, 1000053, 1000057, 1000058, 1000059, 1000060, 1000061, 1000062, 1000064, 1000065, 1000066, 1000067, 1000070, 1000071, 1000072, 1000073, 1000074, 1000075, 1000076, 1000077, 1000078, 1000079, 1000080, 1000081, 1000082, 1000083, 1000084, 1000085, 1000086, 1000087, 1000088, 3000000]
/-- slices.choosePivotOrdered[int] -/
def c60 : AFn := ⟨3, 57, [.t 6, .t 7],
 (.seq
  (.reg [⟨some 6, none, .mov (.c (.int .i64 0))⟩,
   ⟨some 7, none, .mov (.c (.int .i64 0))⟩])
  (.seq
   (.reg [⟨some 13, none, .mov (.t 2)⟩,
    ⟨some 14, none, .mov (.t 1)⟩,
    ⟨some 15, none, .bin .sub (.t 13) (.t 14)⟩,
    ⟨some 8, none, .mov (.t 15)⟩])
   (.seq
    (.reg [⟨some 9, none, .alloc [(.int .i64 0)]⟩])
    (.seq
     (.reg [⟨some 16, none, .mov (.t 1)⟩,
      ⟨some 17, none, .mov (.t 8)⟩,
      ⟨some 18, none, .bin .quo (.t 17) (.c (.int .i64 4))⟩,
      ⟨some 19, none, .bin .mul (.t 18) (.c (.int .i64 1))⟩,
      ⟨some 20, none, .bin .add (.t 16) (.t 19)⟩,
      ⟨some 10, none, .mov (.t 20)⟩])
     (.seq
      (.reg [⟨some 21, none, .mov (.t 1)⟩,
       ⟨some 22, none, .mov (.t 8)⟩,
       ⟨some 23, none, .bin .quo (.t 22) (.c (.int .i64 4))⟩,
       ⟨some 24, none, .bin .mul (.t 23) (.c (.int .i64 2))⟩,
       ⟨some 25, none, .bin .add (.t 21) (.t 24)⟩,
       ⟨some 11, none, .mov (.t 25)⟩])
      (.seq
       (.reg [⟨some 26, none, .mov (.t 1)⟩,
        ⟨some 27, none, .mov (.t 8)⟩,
        ⟨some 28, none, .bin .quo (.t 27) (.c (.int .i64 4))⟩,
        ⟨some 29, none, .bin .mul (.t 28) (.c (.int .i64 3))⟩,
        ⟨some 30, none, .bin .add (.t 26) (.t 29)⟩,
        ⟨some 12, none, .mov (.t 30)⟩])
       (.seq
        (.seq
         (.reg [⟨some 31, none, .mov (.t 8)⟩,
          ⟨some 32, none, .bin .geq (.t 31) (.c (.int .i64 8))⟩])
         (.cond (.t 32)
          (.seq
           (.seq
            (.reg [⟨some 33, none, .mov (.t 8)⟩,
             ⟨some 34, none, .bin .geq (.t 33) (.c (.int .i64 50))⟩])
            (.cond (.t 34)
             (.seq
              (.reg [⟨some 35, none, .mov (.t 0)⟩,
               ⟨some 36, none, .mov (.t 10)⟩,
               ⟨some 37, none, .callS 73 [(.t 35), (.t 36), (.t 9)]⟩,
               ⟨some 10, none, .mov (.t 37)⟩])
              (.seq
               (.reg [⟨some 38, none, .mov (.t 0)⟩,
                ⟨some 39, none, .mov (.t 11)⟩,
                ⟨some 40, none, .callS 73 [(.t 38), (.t 39), (.t 9)]⟩,
                ⟨some 11, none, .mov (.t 40)⟩])
               (.reg [⟨some 41, none, .mov (.t 0)⟩,
                ⟨some 42, none, .mov (.t 12)⟩,
                ⟨some 43, none, .callS 73 [(.t 41), (.t 42), (.t 9)]⟩,
                ⟨some 12, none, .mov (.t 43)⟩])))
             .skip))
           (.reg [⟨some 44, none, .mov (.t 0)⟩,
            ⟨some 45, none, .mov (.t 10)⟩,
            ⟨some 46, none, .mov (.t 11)⟩,
            ⟨some 47, none, .mov (.t 12)⟩,
            ⟨some 48, none, .callS 74 [(.t 44), (.t 45), (.t 46), (.t 47), (.t 9)]⟩,
            ⟨some 11, none, .mov (.t 48)⟩]))
          .skip))
        (.seq
         (.reg [⟨some 49, none, .load 1 false (.t 9)⟩])
         (.block 0
          (.seq
           (.reg [⟨some 52, none, .bin .eql (.t 49) (.c (.int .i64 0))⟩,
            ⟨some 51, none, .mov (.t 52)⟩])
           (.cond (.t 51)
            (.seq
             (.reg [⟨some 53, none, .mov (.t 11)⟩,
              ⟨some 6, none, .mov (.t 53)⟩,
              ⟨some 7, none, .mov (.c (.int .i64 1))⟩])
             .ret)
            (.seq
             (.reg [⟨some 55, none, .bin .eql (.t 49) (.c (.int .i64 12))⟩,
              ⟨some 54, none, .mov (.t 55)⟩])
             (.cond (.t 54)
              (.seq
               (.reg [⟨some 56, none, .mov (.t 11)⟩,
                ⟨some 6, none, .mov (.t 56)⟩,
                ⟨some 7, none, .mov (.c (.int .i64 2))⟩])
               .ret)
              (.seq
               (.reg [⟨some 50, none, .mov (.t 11)⟩,
                ⟨some 6, none, .mov (.t 50)⟩,
                ⟨some 7, none, .mov (.c (.int .i64 0))⟩])
               .ret)))))))))))))), none⟩
def k60 : List (List Nat) := []
def o60 : List Nat := [1000023, 1000027, 1000029, 1000031, 1000032, 1000037, 1000041, 1000042, 1000044, 1000046, 1000047, 1000048, 1000049, 1000050, 1000051, 1000052, 1000053, 1000057, 1000058, 1000059, 1000060, 1000061, 1000062, 1000064, 1000065, 1000066, 1000067, 1000070, 1000071, 1000072, 1000073, 1000074, 1000075, 1000076, 1000077, 1000078, 1000079, 1000080, 1000081, 1000082, 1000083, 1000084, 1000085, 1000086, 1000087, 1000088, 3000000]
def c61b0 : AC := (.seq
      (.seq
       (.reg [⟨some 11, none, .mov (.t 6)⟩,
        ⟨some 12, none, .mov (.t 7)⟩,
        ⟨some 13, none, .bin .lss (.t 11) (.t 12)⟩])
       (.cond (.t 13)
        .skip
        (.exit 0)))
      (.block 1
       (.seq
        (.reg [⟨some 14, none, .mov (.t 0)⟩,
         ⟨some 15, none, .mov (.t 6)⟩,
         ⟨some 16, none, .mov (.t 0)⟩,
         ⟨some 17, none, .mov (.t 7)⟩,
         ⟨some 18, none, .mov (.t 0)⟩,
         ⟨some 19, none, .mov (.t 7)⟩,
         ⟨some 20, none, .iaddr (.slice 1) (.t 18) (.t 19)⟩,
         ⟨some 21, none, .load 1 false (.t 20)⟩,
         ⟨some 22, none, .mov (.t 0)⟩,
         ⟨some 23, none, .mov (.t 6)⟩,
         ⟨some 24, none, .iaddr (.slice 1) (.t 22) (.t 23)⟩,
         ⟨some 25, none, .load 1 false (.t 24)⟩,
         ⟨some 26, none, .iaddr (.slice 1) (.t 14) (.t 15)⟩,
         ⟨none, none, .store 1 (.t 26) (.t 21)⟩,
         ⟨some 27, none, .iaddr (.slice 1) (.t 16) (.t 17)⟩,
         ⟨none, none, .store 1 (.t 27) (.t 25)⟩])
        (.seq
         (.reg [⟨some 28, none, .mov (.t 6)⟩,
          ⟨some 29, none, .bin .add (.t 28) (.c (.int .i64 1))⟩,
          ⟨some 6, none, .mov (.t 29)⟩])
         (.reg [⟨some 30, none, .mov (.t 7)⟩,
          ⟨some 31, none, .bin .sub (.t 30) (.c (.int .i64 1))⟩,
          ⟨some 7, none, .mov (.t 31)⟩])))))
/-- slices.reverseRangeOrdered[int] -/
def c61 : AFn := ⟨3, 32, [],
 (.seq
  (.reg [⟨some 8, none, .mov (.t 1)⟩,
   ⟨some 6, none, .mov (.t 8)⟩])
  (.seq
   (.reg [⟨some 9, none, .mov (.t 2)⟩,
    ⟨some 10, none, .bin .sub (.t 9) (.c (.int .i64 1))⟩,
    ⟨some 7, none, .mov (.t 10)⟩])
   (.block 0
    (.loop [0, 6, 7]
     c61b0)))), none⟩
def k61 : List (List Nat) := [[0, 6, 7]]
def o61 : List Nat := [1000023, 1000027, 1000029, 1000031, 1000032, 1000037, 1000041, 1000042, 1000044, 1000046, 1000047, 1000048, 1000049, 1000050, 1000051, 1000052, 1000053, 1000057, 1000058, 1000059, 1000060, 1000061, 1000062, 1000064, 1000065, 1000066, 1000067, 1000070, 1000071, 1000072, 1000073, 1000074, 1000075, 1000076, 1000077, 1000078, 1000079, 1000080, 1000081, 1000082, 1000083, 1000084, 1000085, 1000086, 1000087, 1000088, 3000000]
def c62b0 : AC := (.seq
                     (.seq
                      (.reg [⟨some 101, none, .mov (.t 10)⟩,
                       ⟨some 102, none, .mov (.t 2)⟩,
                       ⟨some 103, none, .bin .lss (.t 101) (.t 102)⟩])
                      (.cond (.t 103)
                       .skip
                       (.exit 6)))
                     (.seq
                      (.block 7
                       (.seq
                        (.seq
                         (.reg [⟨some 106, none, .mov (.t 0)⟩,
                          ⟨some 107, none, .mov (.t 10)⟩,
                          ⟨some 108, none, .iaddr (.slice 1) (.t 106) (.t 107)⟩,
                          ⟨some 109, none, .load 1 false (.t 108)⟩,
                          ⟨some 110, none, .mov (.t 0)⟩,
                          ⟨some 111, none, .mov (.t 10)⟩,
                          ⟨some 112, none, .bin .sub (.t 111) (.c (.int .i64 1))⟩,
                          ⟨some 113, none, .iaddr (.slice 1) (.t 110) (.t 112)⟩,
                          ⟨some 114, none, .load 1 false (.t 113)⟩,
                          ⟨some 115, none, .call false 63 [(.t 109), (.t 114)]⟩,
                          ⟨some 116, none, .un .not (.t 115)⟩])
                         (.cond (.t 116)
                          (.exit 6)
                          .skip))
                        (.reg [⟨some 117, none, .mov (.t 0)⟩,
                         ⟨some 118, none, .mov (.t 10)⟩,
                         ⟨some 119, none, .mov (.t 0)⟩,
                         ⟨some 120, none, .mov (.t 10)⟩,
                         ⟨some 121, none, .bin .sub (.t 120) (.c (.int .i64 1))⟩,
                         ⟨some 122, none, .mov (.t 0)⟩,
                         ⟨some 123, none, .mov (.t 10)⟩,
                         ⟨some 124, none, .bin .sub (.t 123) (.c (.int .i64 1))⟩,
                         ⟨some 125, none, .iaddr (.slice 1) (.t 122) (.t 124)⟩,
                         ⟨some 126, none, .load 1 false (.t 125)⟩,
                         ⟨some 127, none, .mov (.t 0)⟩,
                         ⟨some 128, none, .mov (.t 10)⟩,
                         ⟨some 129, none, .iaddr (.slice 1) (.t 127) (.t 128)⟩,
                         ⟨some 130, none, .load 1 false (.t 129)⟩,
                         ⟨some 131, none, .iaddr (.slice 1) (.t 117) (.t 118)⟩,
                         ⟨none, none, .store 1 (.t 131) (.t 126)⟩,
                         ⟨some 132, none, .iaddr (.slice 1) (.t 119) (.t 121)⟩,
                         ⟨none, none, .store 1 (.t 132) (.t 130)⟩])))
                      (.reg [⟨some 104, none, .mov (.t 10)⟩,
                       ⟨some 105, none, .bin .add (.t 104) (.c (.int .i64 1))⟩,
                       ⟨some 10, none, .mov (.t 105)⟩])))
def c62b1 : AC := (.seq
                     (.seq
                      (.reg [⟨some 64, none, .mov (.t 9)⟩,
                       ⟨some 65, none, .bin .geq (.t 64) (.c (.int .i64 1))⟩])
                      (.cond (.t 65)
                       .skip
                       (.exit 4)))
                     (.seq
                      (.block 5
                       (.seq
                        (.seq
                         (.reg [⟨some 68, none, .mov (.t 0)⟩,
                          ⟨some 69, none, .mov (.t 9)⟩,
                          ⟨some 70, none, .iaddr (.slice 1) (.t 68) (.t 69)⟩,
                          ⟨some 71, none, .load 1 false (.t 70)⟩,
                          ⟨some 72, none, .mov (.t 0)⟩,
                          ⟨some 73, none, .mov (.t 9)⟩,
                          ⟨some 74, none, .bin .sub (.t 73) (.c (.int .i64 1))⟩,
                          ⟨some 75, none, .iaddr (.slice 1) (.t 72) (.t 74)⟩,
                          ⟨some 76, none, .load 1 false (.t 75)⟩,
                          ⟨some 77, none, .call false 63 [(.t 71), (.t 76)]⟩,
                          ⟨some 78, none, .un .not (.t 77)⟩])
                         (.cond (.t 78)
                          (.exit 4)
                          .skip))
                        (.reg [⟨some 79, none, .mov (.t 0)⟩,
                         ⟨some 80, none, .mov (.t 9)⟩,
                         ⟨some 81, none, .mov (.t 0)⟩,
                         ⟨some 82, none, .mov (.t 9)⟩,
                         ⟨some 83, none, .bin .sub (.t 82) (.c (.int .i64 1))⟩,
                         ⟨some 84, none, .mov (.t 0)⟩,
                         ⟨some 85, none, .mov (.t 9)⟩,
                         ⟨some 86, none, .bin .sub (.t 85) (.c (.int .i64 1))⟩,
                         ⟨some 87, none, .iaddr (.slice 1) (.t 84) (.t 86)⟩,
                         ⟨some 88, none, .load 1 false (.t 87)⟩,
                         ⟨some 89, none, .mov (.t 0)⟩,
                         ⟨some 90, none, .mov (.t 9)⟩,
                         ⟨some 91, none, .iaddr (.slice 1) (.t 89) (.t 90)⟩,
                         ⟨some 92, none, .load 1 false (.t 91)⟩,
                         ⟨some 93, none, .iaddr (.slice 1) (.t 79) (.t 80)⟩,
                         ⟨none, none, .store 1 (.t 93) (.t 88)⟩,
                         ⟨some 94, none, .iaddr (.slice 1) (.t 81) (.t 83)⟩,
                         ⟨none, none, .store 1 (.t 94) (.t 92)⟩])))
                      (.reg [⟨some 66, none, .mov (.t 9)⟩,
                       ⟨some 67, none, .bin .sub (.t 66) (.c (.int .i64 1))⟩,
                       ⟨some 9, none, .mov (.t 67)⟩])))
def c62b2 : AC := (.seq
              (.seq
               (.reg [⟨some 17, none, .mov (.t 7)⟩,
                ⟨some 18, none, .mov (.t 2)⟩,
                ⟨some 19, none, .bin .lss (.t 17) (.t 18)⟩,
                ⟨some 20, none, .mov (.t 19)⟩,
                ⟨some 21, some (20, true), .mov (.t 0)⟩,
                ⟨some 22, some (20, true), .mov (.t 7)⟩,
                ⟨some 23, some (20, true), .iaddr (.slice 1) (.t 21) (.t 22)⟩,
                ⟨some 24, some (20, true), .load 1 false (.t 23)⟩,
                ⟨some 25, some (20, true), .mov (.t 0)⟩,
                ⟨some 26, some (20, true), .mov (.t 7)⟩,
                ⟨some 27, some (20, true), .bin .sub (.t 26) (.c (.int .i64 1))⟩,
                ⟨some 28, some (20, true), .iaddr (.slice 1) (.t 25) (.t 27)⟩,
                ⟨some 29, some (20, true), .load 1 false (.t 28)⟩,
                ⟨some 30, some (20, true), .call false 63 [(.t 24), (.t 29)]⟩,
                ⟨some 31, some (20, true), .un .not (.t 30)⟩,
                ⟨some 32, none, .pick (.t 20) (.t 31) (.c (.bool false))⟩])
               (.cond (.t 32)
                .skip
                (.exit 2)))
              (.block 3
               (.reg [⟨some 33, none, .mov (.t 7)⟩,
                ⟨some 34, none, .bin .add (.t 33) (.c (.int .i64 1))⟩,
                ⟨some 7, none, .mov (.t 34)⟩])))
def c62r0 : AC := (.seq
                (.reg [⟨some 95, none, .mov (.t 2)⟩,
                 ⟨some 96, none, .mov (.t 7)⟩,
                 ⟨some 97, none, .bin .sub (.t 95) (.t 96)⟩,
                 ⟨some 98, none, .bin .geq (.t 97) (.c (.int .i64 2))⟩])
                (.cond (.t 98)
                 (.seq
                  (.reg [⟨some 99, none, .mov (.t 7)⟩,
                   ⟨some 100, none, .bin .add (.t 99) (.c (.int .i64 1))⟩,
                   ⟨some 10, none, .mov (.t 100)⟩])
                  (.block 6
                   (.loop [0, 1, 2, 7, 8, 10]
                    c62b0)))
                 .skip))
def c62r1 : AC := (.seq
            (.seq
             (.reg [⟨some 35, none, .mov (.t 7)⟩,
              ⟨some 36, none, .mov (.t 2)⟩,
              ⟨some 37, none, .bin .eql (.t 35) (.t 36)⟩])
             (.cond (.t 37)
              (.seq
               (.reg [⟨some 6, none, .mov (.c (.bool true))⟩])
               .ret)
              .skip))
            (.seq
             (.seq
              (.reg [⟨some 38, none, .mov (.t 2)⟩,
               ⟨some 39, none, .mov (.t 1)⟩,
               ⟨some 40, none, .bin .sub (.t 38) (.t 39)⟩,
               ⟨some 41, none, .bin .lss (.t 40) (.c (.int .i64 50))⟩])
              (.cond (.t 41)
               (.seq
                (.reg [⟨some 6, none, .mov (.c (.bool false))⟩])
                .ret)
               .skip))
             (.seq
              (.reg [⟨some 42, none, .mov (.t 0)⟩,
               ⟨some 43, none, .mov (.t 7)⟩,
               ⟨some 44, none, .mov (.t 0)⟩,
               ⟨some 45, none, .mov (.t 7)⟩,
               ⟨some 46, none, .bin .sub (.t 45) (.c (.int .i64 1))⟩,
               ⟨some 47, none, .mov (.t 0)⟩,
               ⟨some 48, none, .mov (.t 7)⟩,
               ⟨some 49, none, .bin .sub (.t 48) (.c (.int .i64 1))⟩,
               ⟨some 50, none, .iaddr (.slice 1) (.t 47) (.t 49)⟩,
               ⟨some 51, none, .load 1 false (.t 50)⟩,
               ⟨some 52, none, .mov (.t 0)⟩,
               ⟨some 53, none, .mov (.t 7)⟩,
               ⟨some 54, none, .iaddr (.slice 1) (.t 52) (.t 53)⟩,
               ⟨some 55, none, .load 1 false (.t 54)⟩,
               ⟨some 56, none, .iaddr (.slice 1) (.t 42) (.t 43)⟩,
               ⟨none, none, .store 1 (.t 56) (.t 51)⟩,
               ⟨some 57, none, .iaddr (.slice 1) (.t 44) (.t 46)⟩,
               ⟨none, none, .store 1 (.t 57) (.t 55)⟩])
              (.seq
               (.seq
                (.reg [⟨some 58, none, .mov (.t 7)⟩,
                 ⟨some 59, none, .mov (.t 1)⟩,
                 ⟨some 60, none, .bin .sub (.t 58) (.t 59)⟩,
                 ⟨some 61, none, .bin .geq (.t 60) (.c (.int .i64 2))⟩])
                (.cond (.t 61)
                 (.seq
                  (.reg [⟨some 62, none, .mov (.t 7)⟩,
                   ⟨some 63, none, .bin .sub (.t 62) (.c (.int .i64 1))⟩,
                   ⟨some 9, none, .mov (.t 63)⟩])
                  (.block 4
                   (.loop [0, 1, 2, 7, 8, 9]
                    c62b1)))
                 .skip))
               c62r0))))
def c62b3 : AC := (.seq
        (.seq
         (.reg [⟨some 13, none, .mov (.t 8)⟩,
          ⟨some 14, none, .bin .lss (.t 13) (.c (.int .i64 5))⟩])
         (.cond (.t 14)
          .skip
          (.exit 0)))
        (.seq
         (.block 1
          (.seq
           (.block 2
            (.loop [0, 1, 2, 7, 8]
             c62b2))
           c62r1))
         (.reg [⟨some 15, none, .mov (.t 8)⟩,
          ⟨some 16, none, .bin .add (.t 15) (.c (.int .i64 1))⟩,
          ⟨some 8, none, .mov (.t 16)⟩])))
/-- slices.partialInsertionSortOrdered[int] -/
def c62 : AFn := ⟨3, 133, [.t 6],
 (.seq
  (.reg [⟨some 6, none, .mov (.c (.bool false))⟩])
  (.seq
   (.reg [⟨some 11, none, .mov (.t 1)⟩,
    ⟨some 12, none, .bin .add (.t 11) (.c (.int .i64 1))⟩,
    ⟨some 7, none, .mov (.t 12)⟩])
   (.seq
    (.seq
     (.reg [⟨some 8, none, .mov (.c (.int .i64 0))⟩])
     (.block 0
      (.loop [0, 1, 2, 7, 8]
       c62b3)))
    (.seq
     (.reg [⟨some 6, none, .mov (.c (.bool false))⟩])
     .ret)))), none⟩
def k62 : List (List Nat) := [[0, 1, 2, 7, 8], [0, 1, 2, 7, 8], [0, 1, 2, 7, 8, 9], [0, 1, 2, 7, 8, 10]]
def o62 : List Nat := [1000023, 1000027, 1000029, 1000031, 1000032, 1000037, 1000041, 1000042, 1000044, 1000046, 1000047, 1000048, 1000049, 1000050, 1000051, 1000052, 1000053, 1000057, 1000058, 1000059, 1000060, 1000061, 1000062, 1000064, 1000065, 1000066, 1000067, 1000070, 1000071, 1000072, 1000073, 1000074, 1000075, 1000076, 1000077, 1000078, 1000079, 1000080, 1000081, 1000082, 1000083, 1000084, 1000085, 1000086, 1000087, 1000088, 3000000]
/-- cmp.Less[int] -/
def c63 : AFn := ⟨2, 17, [.t 4],
 (.seq
  (.reg [⟨some 4, none, .mov (.c (.bool false))⟩])
  (.seq
   (.reg [⟨some 5, none, .mov (.t 0)⟩,
    ⟨some 6, none, .call false 39 [(.t 5)]⟩,
    ⟨some 7, none, .mov (.t 6)⟩,
    ⟨some 8, some (7, true), .mov (.t 1)⟩,
    ⟨some 9, some (7, true), .call false 39 [(.t 8)]⟩,
    ⟨some 10, some (7, true), .un .not (.t 9)⟩,
    ⟨some 11, none, .pick (.t 7) (.t 10) (.c (.bool false))⟩,
    ⟨some 12, none, .mov (.t 11)⟩,
    ⟨some 13, some (12, false), .mov (.t 0)⟩,
    ⟨some 14, some (12, false), .mov (.t 1)⟩,
    ⟨some 15, some (12, false), .bin .lss (.t 13) (.t 14)⟩,
    ⟨some 16, none, .pick (.t 12) (.c (.bool true)) (.t 15)⟩,
    ⟨some 4, none, .mov (.t 16)⟩])
   .ret)), none⟩
def k63 : List (List Nat) := []
def o63 : List Nat := [1000023, 1000027, 1000029, 1000031, 1000032, 1000037, 1000041, 1000042, 1000044, 1000046, 1000047, 1000048, 1000049, 1000050, 1000051, 1000052, 1000053, 1000057, 1000058, 1000059, 1000060, 1000061, 1000062, 1000064, 1000065, 1000066, 1000067, 1000070, 1000071, 1000072, 1000073, 1000074, 1000075, 1000076, 1000077, 1000078, 1000079, 1000080, 1000081, 1000082, 1000083, 1000084, 1000085, 1000086, 1000087, 1000088, 3000000]
def c64b0 : AC := (.seq
             (.seq
              (.reg [⟨some 46, none, .mov (.t 9)⟩,
               ⟨some 47, none, .mov (.t 10)⟩,
               ⟨some 48, none, .bin .leq (.t 46) (.t 47)⟩,
               ⟨some 49, none, .mov (.t 48)⟩,
               ⟨some 50, some (49, true), .mov (.t 0)⟩,
               ⟨some 51, some (49, true), .mov (.t 1)⟩,
               ⟨some 52, some (49, true), .iaddr (.slice 1) (.t 50) (.t 51)⟩,
               ⟨some 53, some (49, true), .load 1 false (.t 52)⟩,
               ⟨some 54, some (49, true), .mov (.t 0)⟩,
               ⟨some 55, some (49, true), .mov (.t 10)⟩,
               ⟨some 56, some (49, true), .iaddr (.slice 1) (.t 54) (.t 55)⟩,
               ⟨some 57, some (49, true), .load 1 false (.t 56)⟩,
               ⟨some 58, some (49, true), .call false 63 [(.t 53), (.t 57)]⟩,
               ⟨some 59, none, .pick (.t 49) (.t 58) (.c (.bool false))⟩])
              (.cond (.t 59)
               .skip
               (.exit 4)))
             (.block 5
              (.reg [⟨some 60, none, .mov (.t 10)⟩,
               ⟨some 61, none, .bin .sub (.t 60) (.c (.int .i64 1))⟩,
               ⟨some 10, none, .mov (.t 61)⟩])))
def c64b1 : AC := (.seq
            (.seq
             (.reg [⟨some 29, none, .mov (.t 9)⟩,
              ⟨some 30, none, .mov (.t 10)⟩,
              ⟨some 31, none, .bin .leq (.t 29) (.t 30)⟩,
              ⟨some 32, none, .mov (.t 31)⟩,
              ⟨some 33, some (32, true), .mov (.t 0)⟩,
              ⟨some 34, some (32, true), .mov (.t 1)⟩,
              ⟨some 35, some (32, true), .iaddr (.slice 1) (.t 33) (.t 34)⟩,
              ⟨some 36, some (32, true), .load 1 false (.t 35)⟩,
              ⟨some 37, some (32, true), .mov (.t 0)⟩,
              ⟨some 38, some (32, true), .mov (.t 9)⟩,
              ⟨some 39, some (32, true), .iaddr (.slice 1) (.t 37) (.t 38)⟩,
              ⟨some 40, some (32, true), .load 1 false (.t 39)⟩,
              ⟨some 41, some (32, true), .call false 63 [(.t 36), (.t 40)]⟩,
              ⟨some 42, some (32, true), .un .not (.t 41)⟩,
              ⟨some 43, none, .pick (.t 32) (.t 42) (.c (.bool false))⟩])
             (.cond (.t 43)
              .skip
              (.exit 2)))
            (.block 3
             (.reg [⟨some 44, none, .mov (.t 9)⟩,
              ⟨some 45, none, .bin .add (.t 44) (.c (.int .i64 1))⟩,
              ⟨some 9, none, .mov (.t 45)⟩])))
def c64r0 : AC := (.seq
          (.block 4
           (.loop [0, 1, 9, 10]
            c64b0))
          (.seq
           (.seq
            (.reg [⟨some 62, none, .mov (.t 9)⟩,
             ⟨some 63, none, .mov (.t 10)⟩,
             ⟨some 64, none, .bin .gtr (.t 62) (.t 63)⟩])
            (.cond (.t 64)
             (.exit 0)
             .skip))
           (.seq
            (.reg [⟨some 65, none, .mov (.t 0)⟩,
             ⟨some 66, none, .mov (.t 9)⟩,
             ⟨some 67, none, .mov (.t 0)⟩,
             ⟨some 68, none, .mov (.t 10)⟩,
             ⟨some 69, none, .mov (.t 0)⟩,
             ⟨some 70, none, .mov (.t 10)⟩,
             ⟨some 71, none, .iaddr (.slice 1) (.t 69) (.t 70)⟩,
             ⟨some 72, none, .load 1 false (.t 71)⟩,
             ⟨some 73, none, .mov (.t 0)⟩,
             ⟨some 74, none, .mov (.t 9)⟩,
             ⟨some 75, none, .iaddr (.slice 1) (.t 73) (.t 74)⟩,
             ⟨some 76, none, .load 1 false (.t 75)⟩,
             ⟨some 77, none, .iaddr (.slice 1) (.t 65) (.t 66)⟩,
             ⟨none, none, .store 1 (.t 77) (.t 72)⟩,
             ⟨some 78, none, .iaddr (.slice 1) (.t 67) (.t 68)⟩,
             ⟨none, none, .store 1 (.t 78) (.t 76)⟩])
            (.seq
             (.reg [⟨some 79, none, .mov (.t 9)⟩,
              ⟨some 80, none, .bin .add (.t 79) (.c (.int .i64 1))⟩,
              ⟨some 9, none, .mov (.t 80)⟩])
             (.reg [⟨some 81, none, .mov (.t 10)⟩,
              ⟨some 82, none, .bin .sub (.t 81) (.c (.int .i64 1))⟩,
              ⟨some 10, none, .mov (.t 82)⟩])))))
def c64b2 : AC := (.block 1
        (.seq
         (.block 2
          (.loop [0, 1, 9, 10]
           c64b1))
         c64r0))
/-- slices.partitionEqualOrdered[int] -/
def c64 : AFn := ⟨4, 84, [.t 8],
 (.seq
  (.reg [⟨some 8, none, .mov (.c (.int .i64 0))⟩])
  (.seq
   (.reg [⟨some 11, none, .mov (.t 0)⟩,
    ⟨some 12, none, .mov (.t 1)⟩,
    ⟨some 13, none, .mov (.t 0)⟩,
    ⟨some 14, none, .mov (.t 3)⟩,
    ⟨some 15, none, .mov (.t 0)⟩,
    ⟨some 16, none, .mov (.t 3)⟩,
    ⟨some 17, none, .iaddr (.slice 1) (.t 15) (.t 16)⟩,
    ⟨some 18, none, .load 1 false (.t 17)⟩,
    ⟨some 19, none, .mov (.t 0)⟩,
    ⟨some 20, none, .mov (.t 1)⟩,
    ⟨some 21, none, .iaddr (.slice 1) (.t 19) (.t 20)⟩,
    ⟨some 22, none, .load 1 false (.t 21)⟩,
    ⟨some 23, none, .iaddr (.slice 1) (.t 11) (.t 12)⟩,
    ⟨none, none, .store 1 (.t 23) (.t 18)⟩,
    ⟨some 24, none, .iaddr (.slice 1) (.t 13) (.t 14)⟩,
    ⟨none, none, .store 1 (.t 24) (.t 22)⟩])
   (.seq
    (.reg [⟨some 25, none, .mov (.t 1)⟩,
     ⟨some 26, none, .bin .add (.t 25) (.c (.int .i64 1))⟩,
     ⟨some 27, none, .mov (.t 2)⟩,
     ⟨some 28, none, .bin .sub (.t 27) (.c (.int .i64 1))⟩,
     ⟨some 9, none, .mov (.t 26)⟩,
     ⟨some 10, none, .mov (.t 28)⟩])
    (.seq
     (.block 0
      (.loop [0, 1, 9, 10]
       c64b2))
     (.seq
      (.reg [⟨some 83, none, .mov (.t 9)⟩,
       ⟨some 8, none, .mov (.t 83)⟩])
      .ret))))), none⟩
def k64 : List (List Nat) := [[0, 1, 9, 10], [0, 1, 9, 10], [0, 1, 9, 10]]
def o64 : List Nat := [1000023, 1000027, 1000029, 1000031, 1000032, 1000037, 1000041, 1000042, 1000044, 1000046, 1000047, 1000048, 1000049, 1000050, 1000051, 1000052, 1000053, 1000057, 1000058, 1000059, 1000060, 1000061, 1000062, 1000064, 1000065, 1000066, 1000067, 1000070, 1000071, 1000072, 1000073, 1000074, 1000075, 1000076, 1000077, 1000078, 1000079, 1000080, 1000081, 1000082, 1000083, 1000084, 1000085, 1000086, 1000087, 1000088, 3000000]
def c65b0 : AC := (.seq
                   (.seq
                    (.reg [⟨some 115, none, .mov (.t 10)⟩,
                     ⟨some 116, none, .mov (.t 11)⟩,
                     ⟨some 117, none, .bin .leq (.t 115) (.t 116)⟩,
                     ⟨some 118, none, .mov (.t 117)⟩,
                     ⟨some 119, some (118, true), .mov (.t 0)⟩,
                     ⟨some 120, some (118, true), .mov (.t 11)⟩,
                     ⟨some 121, some (118, true), .iaddr (.slice 1) (.t 119) (.t 120)⟩,
                     ⟨some 122, some (118, true), .load 1 false (.t 121)⟩,
                     ⟨some 123, some (118, true), .mov (.t 0)⟩,
                     ⟨some 124, some (118, true), .mov (.t 1)⟩,
                     ⟨some 125, some (118, true), .iaddr (.slice 1) (.t 123) (.t 124)⟩,
                     ⟨some 126, some (118, true), .load 1 false (.t 125)⟩,
                     ⟨some 127, some (118, true), .call false 63 [(.t 122), (.t 126)]⟩,
                     ⟨some 128, some (118, true), .un .not (.t 127)⟩,
                     ⟨some 129, none, .pick (.t 118) (.t 128) (.c (.bool false))⟩])
                    (.cond (.t 129)
                     .skip
                     (.exit 8)))
                   (.block 9
                    (.reg [⟨some 130, none, .mov (.t 11)⟩,
                     ⟨some 131, none, .bin .sub (.t 130) (.c (.int .i64 1))⟩,
                     ⟨some 11, none, .mov (.t 131)⟩])))
def c65b1 : AC := (.seq
                  (.seq
                   (.reg [⟨some 99, none, .mov (.t 10)⟩,
                    ⟨some 100, none, .mov (.t 11)⟩,
                    ⟨some 101, none, .bin .leq (.t 99) (.t 100)⟩,
                    ⟨some 102, none, .mov (.t 101)⟩,
                    ⟨some 103, some (102, true), .mov (.t 0)⟩,
                    ⟨some 104, some (102, true), .mov (.t 10)⟩,
                    ⟨some 105, some (102, true), .iaddr (.slice 1) (.t 103) (.t 104)⟩,
                    ⟨some 106, some (102, true), .load 1 false (.t 105)⟩,
                    ⟨some 107, some (102, true), .mov (.t 0)⟩,
                    ⟨some 108, some (102, true), .mov (.t 1)⟩,
                    ⟨some 109, some (102, true), .iaddr (.slice 1) (.t 107) (.t 108)⟩,
                    ⟨some 110, some (102, true), .load 1 false (.t 109)⟩,
                    ⟨some 111, some (102, true), .call false 63 [(.t 106), (.t 110)]⟩,
                    ⟨some 112, none, .pick (.t 102) (.t 111) (.c (.bool false))⟩])
                   (.cond (.t 112)
                    .skip
                    (.exit 6)))
                  (.block 7
                   (.reg [⟨some 113, none, .mov (.t 10)⟩,
                    ⟨some 114, none, .bin .add (.t 113) (.c (.int .i64 1))⟩,
                    ⟨some 10, none, .mov (.t 114)⟩])))
def c65r0 : AC := (.seq
                (.block 8
                 (.loop [0, 1, 10, 11]
                  c65b0))
                (.seq
                 (.seq
                  (.reg [⟨some 132, none, .mov (.t 10)⟩,
                   ⟨some 133, none, .mov (.t 11)⟩,
                   ⟨some 134, none, .bin .gtr (.t 132) (.t 133)⟩])
                  (.cond (.t 134)
                   (.exit 4)
                   .skip))
                 (.seq
                  (.reg [⟨some 135, none, .mov (.t 0)⟩,
                   ⟨some 136, none, .mov (.t 10)⟩,
                   ⟨some 137, none, .mov (.t 0)⟩,
                   ⟨some 138, none, .mov (.t 11)⟩,
                   ⟨some 139, none, .mov (.t 0)⟩,
                   ⟨some 140, none, .mov (.t 11)⟩,
                   ⟨some 141, none, .iaddr (.slice 1) (.t 139) (.t 140)⟩,
                   ⟨some 142, none, .load 1 false (.t 141)⟩,
                   ⟨some 143, none, .mov (.t 0)⟩,
                   ⟨some 144, none, .mov (.t 10)⟩,
                   ⟨some 145, none, .iaddr (.slice 1) (.t 143) (.t 144)⟩,
                   ⟨some 146, none, .load 1 false (.t 145)⟩,
                   ⟨some 147, none, .iaddr (.slice 1) (.t 135) (.t 136)⟩,
                   ⟨none, none, .store 1 (.t 147) (.t 142)⟩,
                   ⟨some 148, none, .iaddr (.slice 1) (.t 137) (.t 138)⟩,
                   ⟨none, none, .store 1 (.t 148) (.t 146)⟩])
                  (.seq
                   (.reg [⟨some 149, none, .mov (.t 10)⟩,
                    ⟨some 150, none, .bin .add (.t 149) (.c (.int .i64 1))⟩,
                    ⟨some 10, none, .mov (.t 150)⟩])
                   (.reg [⟨some 151, none, .mov (.t 11)⟩,
                    ⟨some 152, none, .bin .sub (.t 151) (.c (.int .i64 1))⟩,
                    ⟨some 11, none, .mov (.t 152)⟩])))))
def c65b2 : AC := (.block 5
              (.seq
               (.block 6
                (.loop [0, 1, 10, 11]
                 c65b1))
               c65r0))
def c65b3 : AC := (.seq
         (.seq
          (.reg [⟨some 46, none, .mov (.t 10)⟩,
           ⟨some 47, none, .mov (.t 11)⟩,
           ⟨some 48, none, .bin .leq (.t 46) (.t 47)⟩,
           ⟨some 49, none, .mov (.t 48)⟩,
           ⟨some 50, some (49, true), .mov (.t 0)⟩,
           ⟨some 51, some (49, true), .mov (.t 11)⟩,
           ⟨some 52, some (49, true), .iaddr (.slice 1) (.t 50) (.t 51)⟩,
           ⟨some 53, some (49, true), .load 1 false (.t 52)⟩,
           ⟨some 54, some (49, true), .mov (.t 0)⟩,
           ⟨some 55, some (49, true), .mov (.t 1)⟩,
           ⟨some 56, some (49, true), .iaddr (.slice 1) (.t 54) (.t 55)⟩,
           ⟨some 57, some (49, true), .load 1 false (.t 56)⟩,
           ⟨some 58, some (49, true), .call false 63 [(.t 53), (.t 57)]⟩,
           ⟨some 59, some (49, true), .un .not (.t 58)⟩,
           ⟨some 60, none, .pick (.t 49) (.t 59) (.c (.bool false))⟩])
          (.cond (.t 60)
           .skip
           (.exit 2)))
         (.block 3
          (.reg [⟨some 61, none, .mov (.t 11)⟩,
           ⟨some 62, none, .bin .sub (.t 61) (.c (.int .i64 1))⟩,
           ⟨some 11, none, .mov (.t 62)⟩])))
def c65b4 : AC := (.seq
        (.seq
         (.reg [⟨some 30, none, .mov (.t 10)⟩,
          ⟨some 31, none, .mov (.t 11)⟩,
          ⟨some 32, none, .bin .leq (.t 30) (.t 31)⟩,
          ⟨some 33, none, .mov (.t 32)⟩,
          ⟨some 34, some (33, true), .mov (.t 0)⟩,
          ⟨some 35, some (33, true), .mov (.t 10)⟩,
          ⟨some 36, some (33, true), .iaddr (.slice 1) (.t 34) (.t 35)⟩,
          ⟨some 37, some (33, true), .load 1 false (.t 36)⟩,
          ⟨some 38, some (33, true), .mov (.t 0)⟩,
          ⟨some 39, some (33, true), .mov (.t 1)⟩,
          ⟨some 40, some (33, true), .iaddr (.slice 1) (.t 38) (.t 39)⟩,
          ⟨some 41, some (33, true), .load 1 false (.t 40)⟩,
          ⟨some 42, some (33, true), .call false 63 [(.t 37), (.t 41)]⟩,
          ⟨some 43, none, .pick (.t 33) (.t 42) (.c (.bool false))⟩])
         (.cond (.t 43)
          .skip
          (.exit 0)))
        (.block 1
         (.reg [⟨some 44, none, .mov (.t 10)⟩,
          ⟨some 45, none, .bin .add (.t 44) (.c (.int .i64 1))⟩,
          ⟨some 10, none, .mov (.t 45)⟩])))
def c65r1 : AC := (.seq
       (.seq
        (.reg [⟨some 63, none, .mov (.t 10)⟩,
         ⟨some 64, none, .mov (.t 11)⟩,
         ⟨some 65, none, .bin .gtr (.t 63) (.t 64)⟩])
        (.cond (.t 65)
         (.seq
          (.reg [⟨some 66, none, .mov (.t 0)⟩,
           ⟨some 67, none, .mov (.t 11)⟩,
           ⟨some 68, none, .mov (.t 0)⟩,
           ⟨some 69, none, .mov (.t 1)⟩,
           ⟨some 70, none, .mov (.t 0)⟩,
           ⟨some 71, none, .mov (.t 1)⟩,
           ⟨some 72, none, .iaddr (.slice 1) (.t 70) (.t 71)⟩,
           ⟨some 73, none, .load 1 false (.t 72)⟩,
           ⟨some 74, none, .mov (.t 0)⟩,
           ⟨some 75, none, .mov (.t 11)⟩,
           ⟨some 76, none, .iaddr (.slice 1) (.t 74) (.t 75)⟩,
           ⟨some 77, none, .load 1 false (.t 76)⟩,
           ⟨some 78, none, .iaddr (.slice 1) (.t 66) (.t 67)⟩,
           ⟨none, none, .store 1 (.t 78) (.t 73)⟩,
           ⟨some 79, none, .iaddr (.slice 1) (.t 68) (.t 69)⟩,
           ⟨none, none, .store 1 (.t 79) (.t 77)⟩])
          (.seq
           (.reg [⟨some 80, none, .mov (.t 11)⟩,
            ⟨some 8, none, .mov (.t 80)⟩,
            ⟨some 9, none, .mov (.c (.bool true))⟩])
           .ret))
         .skip))
       (.seq
        (.reg [⟨some 81, none, .mov (.t 0)⟩,
         ⟨some 82, none, .mov (.t 10)⟩,
         ⟨some 83, none, .mov (.t 0)⟩,
         ⟨some 84, none, .mov (.t 11)⟩,
         ⟨some 85, none, .mov (.t 0)⟩,
         ⟨some 86, none, .mov (.t 11)⟩,
         ⟨some 87, none, .iaddr (.slice 1) (.t 85) (.t 86)⟩,
         ⟨some 88, none, .load 1 false (.t 87)⟩,
         ⟨some 89, none, .mov (.t 0)⟩,
         ⟨some 90, none, .mov (.t 10)⟩,
         ⟨some 91, none, .iaddr (.slice 1) (.t 89) (.t 90)⟩,
         ⟨some 92, none, .load 1 false (.t 91)⟩,
         ⟨some 93, none, .iaddr (.slice 1) (.t 81) (.t 82)⟩,
         ⟨none, none, .store 1 (.t 93) (.t 88)⟩,
         ⟨some 94, none, .iaddr (.slice 1) (.t 83) (.t 84)⟩,
         ⟨none, none, .store 1 (.t 94) (.t 92)⟩])
        (.seq
         (.reg [⟨some 95, none, .mov (.t 10)⟩,
          ⟨some 96, none, .bin .add (.t 95) (.c (.int .i64 1))⟩,
          ⟨some 10, none, .mov (.t 96)⟩])
         (.seq
          (.reg [⟨some 97, none, .mov (.t 11)⟩,
           ⟨some 98, none, .bin .sub (.t 97) (.c (.int .i64 1))⟩,
           ⟨some 11, none, .mov (.t 98)⟩])
          (.seq
           (.block 4
            (.loop [0, 1, 10, 11]
             c65b2))
           (.seq
            (.reg [⟨some 153, none, .mov (.t 0)⟩,
             ⟨some 154, none, .mov (.t 11)⟩,
             ⟨some 155, none, .mov (.t 0)⟩,
             ⟨some 156, none, .mov (.t 1)⟩,
             ⟨some 157, none, .mov (.t 0)⟩,
             ⟨some 158, none, .mov (.t 1)⟩,
             ⟨some 159, none, .iaddr (.slice 1) (.t 157) (.t 158)⟩,
             ⟨some 160, none, .load 1 false (.t 159)⟩,
             ⟨some 161, none, .mov (.t 0)⟩,
             ⟨some 162, none, .mov (.t 11)⟩,
             ⟨some 163, none, .iaddr (.slice 1) (.t 161) (.t 162)⟩,
             ⟨some 164, none, .load 1 false (.t 163)⟩,
             ⟨some 165, none, .iaddr (.slice 1) (.t 153) (.t 154)⟩,
             ⟨none, none, .store 1 (.t 165) (.t 160)⟩,
             ⟨some 166, none, .iaddr (.slice 1) (.t 155) (.t 156)⟩,
             ⟨none, none, .store 1 (.t 166) (.t 164)⟩])
            (.seq
             (.reg [⟨some 167, none, .mov (.t 11)⟩,
              ⟨some 8, none, .mov (.t 167)⟩,
              ⟨some 9, none, .mov (.c (.bool false))⟩])
             .ret)))))))
def c65r2 : AC := (.seq
      (.block 2
       (.loop [0, 1, 10, 11]
        c65b3))
      c65r1)
/-- slices.partitionOrdered[int] -/
def c65 : AFn := ⟨4, 168, [.t 8, .t 9],
 (.seq
  (.reg [⟨some 8, none, .mov (.c (.int .i64 0))⟩,
   ⟨some 9, none, .mov (.c (.bool false))⟩])
  (.seq
   (.reg [⟨some 12, none, .mov (.t 0)⟩,
    ⟨some 13, none, .mov (.t 1)⟩,
    ⟨some 14, none, .mov (.t 0)⟩,
    ⟨some 15, none, .mov (.t 3)⟩,
    ⟨some 16, none, .mov (.t 0)⟩,
    ⟨some 17, none, .mov (.t 3)⟩,
    ⟨some 18, none, .iaddr (.slice 1) (.t 16) (.t 17)⟩,
    ⟨some 19, none, .load 1 false (.t 18)⟩,
    ⟨some 20, none, .mov (.t 0)⟩,
    ⟨some 21, none, .mov (.t 1)⟩,
    ⟨some 22, none, .iaddr (.slice 1) (.t 20) (.t 21)⟩,
    ⟨some 23, none, .load 1 false (.t 22)⟩,
    ⟨some 24, none, .iaddr (.slice 1) (.t 12) (.t 13)⟩,
    ⟨none, none, .store 1 (.t 24) (.t 19)⟩,
    ⟨some 25, none, .iaddr (.slice 1) (.t 14) (.t 15)⟩,
    ⟨none, none, .store 1 (.t 25) (.t 23)⟩])
   (.seq
    (.reg [⟨some 26, none, .mov (.t 1)⟩,
     ⟨some 27, none, .bin .add (.t 26) (.c (.int .i64 1))⟩,
     ⟨some 28, none, .mov (.t 2)⟩,
     ⟨some 29, none, .bin .sub (.t 28) (.c (.int .i64 1))⟩,
     ⟨some 10, none, .mov (.t 27)⟩,
     ⟨some 11, none, .mov (.t 29)⟩])
    (.seq
     (.block 0
      (.loop [0, 1, 10, 11]
       c65b4))
     c65r2)))), none⟩
def k65 : List (List Nat) := [[0, 1, 10, 11], [0, 1, 10, 11], [0, 1, 10, 11], [0, 1, 10, 11], [0, 1, 10, 11]]
def o65 : List Nat := [1000023, 1000027, 1000029, 1000031, 1000032, 1000037, 1000041, 1000042, 1000044, 1000046, 1000047, 1000048, 1000049, 1000050, 1000051, 1000052, 1000053, 1000057, 1000058, 1000059, 1000060, 1000061, 1000062, 1000064, 1000065, 1000066, 1000067, 1000070, 1000071, 1000072, 1000073, 1000074, 1000075, 1000076, 1000077, 1000078, 1000079, 1000080, 1000081, 1000082, 1000083, 1000084, 1000085, 1000086, 1000087, 1000088, 3000000]
def c66b0 : AC := (.block 1
      (.seq
       (.reg [⟨some 21, none, .mov (.t 2)⟩,
        ⟨some 22, none, .mov (.t 1)⟩,
        ⟨some 23, none, .bin .sub (.t 21) (.t 22)⟩,
        ⟨some 12, none, .mov (.t 23)⟩])
       (.seq
        (.seq
         (.reg [⟨some 24, none, .mov (.t 12)⟩,
          ⟨some 25, none, .bin .leq (.t 24) (.c (.int .i64 12))⟩])
         (.cond (.t 25)
          (.seq
           (.reg [⟨some 26, none, .mov (.t 0)⟩,
            ⟨some 27, none, .mov (.t 1)⟩,
            ⟨some 28, none, .mov (.t 2)⟩,
            ⟨some 29, none, .mov (.t 4)⟩,
            ⟨some 30, none, .callS 75 [(.t 26), (.t 27), (.t 28), (.t 29)]⟩])
           .ret)
          .skip))
        (.seq
         (.seq
          (.reg [⟨some 31, none, .mov (.t 3)⟩,
           ⟨some 32, none, .bin .eql (.t 31) (.c (.int .i64 0))⟩])
          (.cond (.t 32)
           (.seq
            (.reg [⟨some 33, none, .mov (.t 0)⟩,
             ⟨some 34, none, .mov (.t 1)⟩,
             ⟨some 35, none, .mov (.t 2)⟩,
             ⟨some 36, none, .mov (.t 4)⟩,
             ⟨some 37, none, .callS 76 [(.t 33), (.t 34), (.t 35), (.t 36)]⟩])
            .ret)
           .skip))
         (.seq
          (.seq
           (.reg [⟨some 38, none, .mov (.t 10)⟩,
            ⟨some 39, none, .un .not (.t 38)⟩])
           (.cond (.t 39)
            (.seq
             (.reg [⟨some 40, none, .mov (.t 0)⟩,
              ⟨some 41, none, .mov (.t 1)⟩,
              ⟨some 42, none, .mov (.t 2)⟩,
              ⟨some 43, none, .mov (.t 4)⟩,
              ⟨some 44, none, .callS 77 [(.t 40), (.t 41), (.t 42), (.t 43)]⟩])
             (.reg [⟨some 45, none, .mov (.t 3)⟩,
              ⟨some 46, none, .bin .sub (.t 45) (.c (.int .i64 1))⟩,
              ⟨some 3, none, .mov (.t 46)⟩]))
            .skip))
          (.seq
           (.reg [⟨some 48, none, .mov (.t 0)⟩,
            ⟨some 49, none, .mov (.t 1)⟩,
            ⟨some 50, none, .mov (.t 2)⟩,
            ⟨some 51, none, .mov (.t 4)⟩,
            ⟨some 52, none, .callS 78 [(.t 48), (.t 49), (.t 50), (.t 51)]⟩,
            ⟨some 47, none, .mov (.t 52)⟩,
            ⟨some 53, none, .ext (.t 47) 0⟩,
            ⟨some 54, none, .ext (.t 47) 1⟩,
            ⟨some 13, none, .mov (.t 53)⟩,
            ⟨some 14, none, .mov (.t 54)⟩])
           (.seq
            (.seq
             (.reg [⟨some 55, none, .mov (.t 14)⟩,
              ⟨some 56, none, .bin .eql (.t 55) (.c (.int .i64 2))⟩])
             (.cond (.t 56)
              (.seq
               (.reg [⟨some 57, none, .mov (.t 0)⟩,
                ⟨some 58, none, .mov (.t 1)⟩,
                ⟨some 59, none, .mov (.t 2)⟩,
                ⟨some 60, none, .mov (.t 4)⟩,
                ⟨some 61, none, .callS 79 [(.t 57), (.t 58), (.t 59), (.t 60)]⟩])
               (.seq
                (.reg [⟨some 62, none, .mov (.t 2)⟩,
                 ⟨some 63, none, .bin .sub (.t 62) (.c (.int .i64 1))⟩,
                 ⟨some 64, none, .mov (.t 13)⟩,
                 ⟨some 65, none, .mov (.t 1)⟩,
                 ⟨some 66, none, .bin .sub (.t 64) (.t 65)⟩,
                 ⟨some 67, none, .bin .sub (.t 63) (.t 66)⟩,
                 ⟨some 13, none, .mov (.t 67)⟩])
                (.reg [⟨some 14, none, .mov (.c (.int .i64 1))⟩])))
              .skip))
            (.seq
             (.seq
              (.reg [⟨some 68, none, .mov (.t 10)⟩,
               ⟨some 69, none, .mov (.t 68)⟩,
               ⟨some 70, some (69, true), .mov (.t 11)⟩,
               ⟨some 71, none, .pick (.t 69) (.t 70) (.c (.bool false))⟩,
               ⟨some 72, none, .mov (.t 71)⟩,
               ⟨some 73, some (72, true), .mov (.t 14)⟩,
               ⟨some 74, some (72, true), .bin .eql (.t 73) (.c (.int .i64 1))⟩,
               ⟨some 75, none, .pick (.t 72) (.t 74) (.c (.bool false))⟩])
              (.cond (.t 75)
               (.seq
                (.reg [⟨some 76, none, .mov (.t 0)⟩,
                 ⟨some 77, none, .mov (.t 1)⟩,
                 ⟨some 78, none, .mov (.t 2)⟩,
                 ⟨some 79, none, .mov (.t 4)⟩,
                 ⟨some 80, none, .callS 80 [(.t 76), (.t 77), (.t 78), (.t 79)]⟩])
                (.cond (.t 80)
                 .ret
                 .skip))
               .skip))
             (.seq
              (.seq
               (.reg [⟨some 81, none, .mov (.t 1)⟩,
                ⟨some 82, none, .bin .gtr (.t 81) (.c (.int .i64 0))⟩,
                ⟨some 83, none, .mov (.t 82)⟩,
                ⟨some 84, some (83, true), .mov (.t 4)⟩,
                ⟨some 85, some (83, true), .mov (.t 0)⟩,
                ⟨some 86, some (83, true), .mov (.t 1)⟩,
                ⟨some 87, some (83, true), .bin .sub (.t 86) (.c (.int .i64 1))⟩,
                ⟨some 88, some (83, true), .iaddr (.slice 2) (.t 85) (.t 87)⟩,
                ⟨some 89, some (83, true), .load 2 true (.t 88)⟩,
                ⟨some 90, some (83, true), .mov (.t 0)⟩,
                ⟨some 91, some (83, true), .mov (.t 13)⟩,
                ⟨some 92, some (83, true), .iaddr (.slice 2) (.t 90) (.t 91)⟩,
                ⟨some 93, some (83, true), .load 2 true (.t 92)⟩,
                ⟨some 94, some (83, true), .calld false (.t 84) [(.t 89), (.t 93)]⟩,
                ⟨some 95, some (83, true), .bin .lss (.t 94) (.c (.int .i64 0))⟩,
                ⟨some 96, some (83, true), .un .not (.t 95)⟩,
                ⟨some 97, none, .pick (.t 83) (.t 96) (.c (.bool false))⟩])
               (.cond (.t 97)
                (.seq
                 (.reg [⟨some 98, none, .mov (.t 0)⟩,
                  ⟨some 99, none, .mov (.t 1)⟩,
                  ⟨some 100, none, .mov (.t 2)⟩,
                  ⟨some 101, none, .mov (.t 13)⟩,
                  ⟨some 102, none, .mov (.t 4)⟩,
                  ⟨some 103, none, .callS 81 [(.t 98), (.t 99), (.t 100), (.t 101), (.t 102)]⟩,
                  ⟨some 15, none, .mov (.t 103)⟩])
                 (.seq
                  (.reg [⟨some 104, none, .mov (.t 15)⟩,
                   ⟨some 1, none, .mov (.t 104)⟩])
                  (.exit 1)))
                .skip))
              (.seq
               (.reg [⟨some 106, none, .mov (.t 0)⟩,
                ⟨some 107, none, .mov (.t 1)⟩,
                ⟨some 108, none, .mov (.t 2)⟩,
                ⟨some 109, none, .mov (.t 13)⟩,
                ⟨some 110, none, .mov (.t 4)⟩,
                ⟨some 111, none, .callS 82 [(.t 106), (.t 107), (.t 108), (.t 109), (.t 110)]⟩,
                ⟨some 105, none, .mov (.t 111)⟩,
                ⟨some 112, none, .ext (.t 105) 0⟩,
                ⟨some 113, none, .ext (.t 105) 1⟩,
                ⟨some 16, none, .mov (.t 112)⟩,
                ⟨some 17, none, .mov (.t 113)⟩])
               (.seq
                (.reg [⟨some 114, none, .mov (.t 17)⟩,
                 ⟨some 11, none, .mov (.t 114)⟩])
                (.seq
                 (.reg [⟨some 115, none, .mov (.t 16)⟩,
                  ⟨some 116, none, .mov (.t 1)⟩,
                  ⟨some 117, none, .bin .sub (.t 115) (.t 116)⟩,
                  ⟨some 118, none, .mov (.t 2)⟩,
                  ⟨some 119, none, .mov (.t 16)⟩,
                  ⟨some 120, none, .bin .sub (.t 118) (.t 119)⟩,
                  ⟨some 18, none, .mov (.t 117)⟩,
                  ⟨some 19, none, .mov (.t 120)⟩])
                 (.seq
                  (.reg [⟨some 121, none, .mov (.t 12)⟩,
                   ⟨some 122, none, .bin .quo (.t 121) (.c (.int .i64 8))⟩,
                   ⟨some 20, none, .mov (.t 122)⟩])
                  (.seq
                   (.reg [⟨some 123, none, .mov (.t 18)⟩,
                    ⟨some 124, none, .mov (.t 19)⟩,
                    ⟨some 125, none, .bin .lss (.t 123) (.t 124)⟩])
                   (.cond (.t 125)
                    (.seq
                     (.reg [⟨some 126, none, .mov (.t 18)⟩,
                      ⟨some 127, none, .mov (.t 20)⟩,
                      ⟨some 128, none, .bin .geq (.t 126) (.t 127)⟩,
                      ⟨some 10, none, .mov (.t 128)⟩])
                     (.seq
                      (.reg [⟨some 129, none, .mov (.t 0)⟩,
                       ⟨some 130, none, .mov (.t 1)⟩,
                       ⟨some 131, none, .mov (.t 16)⟩,
                       ⟨some 132, none, .mov (.t 3)⟩,
                       ⟨some 133, none, .mov (.t 4)⟩,
                       ⟨some 134, none, .callS 66 [(.t 129), (.t 130), (.t 131), (.t 132), (.t 133)]⟩])
                      (.reg [⟨some 135, none, .mov (.t 16)⟩,
                       ⟨some 136, none, .bin .add (.t 135) (.c (.int .i64 1))⟩,
                       ⟨some 1, none, .mov (.t 136)⟩])))
                    (.seq
                     (.reg [⟨some 137, none, .mov (.t 19)⟩,
                      ⟨some 138, none, .mov (.t 20)⟩,
                      ⟨some 139, none, .bin .geq (.t 137) (.t 138)⟩,
                      ⟨some 10, none, .mov (.t 139)⟩])
                     (.seq
                      (.reg [⟨some 140, none, .mov (.t 0)⟩,
                       ⟨some 141, none, .mov (.t 16)⟩,
                       ⟨some 142, none, .bin .add (.t 141) (.c (.int .i64 1))⟩,
                       ⟨some 143, none, .mov (.t 2)⟩,
                       ⟨some 144, none, .mov (.t 3)⟩,
                       ⟨some 145, none, .mov (.t 4)⟩,
                       ⟨some 146, none, .callS 66 [(.t 140), (.t 142), (.t 143), (.t 144), (.t 145)]⟩])
                      (.reg [⟨some 147, none, .mov (.t 16)⟩,
                       ⟨some 2, none, .mov (.t 147)⟩]))))))))))))))))))
/-- slices.pdqsortCmpFunc[tracebook/api.Span] -/
def c66 : AFn := ⟨5, 148, [],
 (.seq
  (.reg [⟨some 10, none, .mov (.c (.bool true))⟩])
  (.seq
   (.reg [⟨some 11, none, .mov (.c (.bool true))⟩])
   (.block 0
    (.loop [0, 1, 2, 3, 4, 10, 11]
     c66b0)))), none⟩
def k66 : List (List Nat) := [[0, 1, 2, 3, 4, 10, 11]]
def o66 : List Nat := [1000023, 1000027, 1000029, 1000031, 1000032, 1000037, 1000041, 1000042, 1000044, 1000046, 1000047, 1000048, 1000049, 1000050, 1000051, 1000052, 1000053, 1000057, 1000058, 1000059, 1000060, 1000061, 1000062, 1000064, 1000065, 1000066, 1000067, 1000070, 1000071, 1000072, 1000073, 1000074, 1000075, 1000076, 1000077, 1000078, 1000079, 1000080, 1000081, 1000082, 1000083, 1000084, 1000085, 1000086, 1000087, 1000088, 3000000]
def c67b0 : AC := (.block 1
     (.seq
      (.reg [⟨some 13, none, .mov (.t 10)⟩,
       ⟨some 14, none, .bin .mul (.c (.int .i64 2)) (.t 13)⟩,
       ⟨some 15, none, .bin .add (.t 14) (.c (.int .i64 1))⟩,
       ⟨some 11, none, .mov (.t 15)⟩])
      (.seq
       (.seq
        (.reg [⟨some 16, none, .mov (.t 11)⟩,
         ⟨some 17, none, .mov (.t 2)⟩,
         ⟨some 18, none, .bin .geq (.t 16) (.t 17)⟩])
        (.cond (.t 18)
         (.exit 0)
         .skip))
       (.seq
        (.seq
         (.reg [⟨some 19, none, .mov (.t 11)⟩,
          ⟨some 20, none, .bin .add (.t 19) (.c (.int .i64 1))⟩,
          ⟨some 21, none, .mov (.t 2)⟩,
          ⟨some 22, none, .bin .lss (.t 20) (.t 21)⟩,
          ⟨some 23, none, .mov (.t 22)⟩,
          ⟨some 24, some (23, true), .mov (.t 4)⟩,
          ⟨some 25, some (23, true), .mov (.t 0)⟩,
          ⟨some 26, some (23, true), .mov (.t 3)⟩,
          ⟨some 27, some (23, true), .mov (.t 11)⟩,
          ⟨some 28, some (23, true), .bin .add (.t 26) (.t 27)⟩,
          ⟨some 29, some (23, true), .iaddr (.slice 1) (.t 25) (.t 28)⟩,
          ⟨some 30, some (23, true), .load 1 false (.t 29)⟩,
          ⟨some 31, some (23, true), .mov (.t 0)⟩,
          ⟨some 32, some (23, true), .mov (.t 3)⟩,
          ⟨some 33, some (23, true), .mov (.t 11)⟩,
          ⟨some 34, some (23, true), .bin .add (.t 32) (.t 33)⟩,
          ⟨some 35, some (23, true), .bin .add (.t 34) (.c (.int .i64 1))⟩,
          ⟨some 36, some (23, true), .iaddr (.slice 1) (.t 31) (.t 35)⟩,
          ⟨some 37, some (23, true), .load 1 false (.t 36)⟩,
          ⟨some 38, some (23, true), .calld false (.t 24) [(.t 30), (.t 37)]⟩,
          ⟨some 39, some (23, true), .bin .lss (.t 38) (.c (.int .i64 0))⟩,
          ⟨some 40, none, .pick (.t 23) (.t 39) (.c (.bool false))⟩])
         (.cond (.t 40)
          (.reg [⟨some 41, none, .mov (.t 11)⟩,
           ⟨some 42, none, .bin .add (.t 41) (.c (.int .i64 1))⟩,
           ⟨some 11, none, .mov (.t 42)⟩])
          .skip))
        (.seq
         (.seq
          (.reg [⟨some 43, none, .mov (.t 4)⟩,
           ⟨some 44, none, .mov (.t 0)⟩,
           ⟨some 45, none, .mov (.t 3)⟩,
           ⟨some 46, none, .mov (.t 10)⟩,
           ⟨some 47, none, .bin .add (.t 45) (.t 46)⟩,
           ⟨some 48, none, .iaddr (.slice 1) (.t 44) (.t 47)⟩,
           ⟨some 49, none, .load 1 false (.t 48)⟩,
           ⟨some 50, none, .mov (.t 0)⟩,
           ⟨some 51, none, .mov (.t 3)⟩,
           ⟨some 52, none, .mov (.t 11)⟩,
           ⟨some 53, none, .bin .add (.t 51) (.t 52)⟩,
           ⟨some 54, none, .iaddr (.slice 1) (.t 50) (.t 53)⟩,
           ⟨some 55, none, .load 1 false (.t 54)⟩,
           ⟨some 56, none, .calld false (.t 43) [(.t 49), (.t 55)]⟩,
           ⟨some 57, none, .bin .lss (.t 56) (.c (.int .i64 0))⟩,
           ⟨some 58, none, .un .not (.t 57)⟩])
          (.cond (.t 58)
           .ret
           .skip))
         (.seq
          (.reg [⟨some 59, none, .mov (.t 0)⟩,
           ⟨some 60, none, .mov (.t 3)⟩,
           ⟨some 61, none, .mov (.t 10)⟩,
           ⟨some 62, none, .bin .add (.t 60) (.t 61)⟩,
           ⟨some 63, none, .mov (.t 0)⟩,
           ⟨some 64, none, .mov (.t 3)⟩,
           ⟨some 65, none, .mov (.t 11)⟩,
           ⟨some 66, none, .bin .add (.t 64) (.t 65)⟩,
           ⟨some 67, none, .mov (.t 0)⟩,
           ⟨some 68, none, .mov (.t 3)⟩,
           ⟨some 69, none, .mov (.t 11)⟩,
           ⟨some 70, none, .bin .add (.t 68) (.t 69)⟩,
           ⟨some 71, none, .iaddr (.slice 1) (.t 67) (.t 70)⟩,
           ⟨some 72, none, .load 1 false (.t 71)⟩,
           ⟨some 73, none, .mov (.t 0)⟩,
           ⟨some 74, none, .mov (.t 3)⟩,
           ⟨some 75, none, .mov (.t 10)⟩,
           ⟨some 76, none, .bin .add (.t 74) (.t 75)⟩,
           ⟨some 77, none, .iaddr (.slice 1) (.t 73) (.t 76)⟩,
           ⟨some 78, none, .load 1 false (.t 77)⟩,
           ⟨some 79, none, .iaddr (.slice 1) (.t 59) (.t 62)⟩,
           ⟨none, none, .store 1 (.t 79) (.t 72)⟩,
           ⟨some 80, none, .iaddr (.slice 1) (.t 63) (.t 66)⟩,
           ⟨none, none, .store 1 (.t 80) (.t 78)⟩])
          (.reg [⟨some 81, none, .mov (.t 11)⟩,
           ⟨some 10, none, .mov (.t 81)⟩])))))))
/-- slices.siftDownCmpFunc[int] -/
def c67 : AFn := ⟨5, 82, [],
 (.seq
  (.reg [⟨some 12, none, .mov (.t 1)⟩,
   ⟨some 10, none, .mov (.t 12)⟩])
  (.block 0
   (.loop [0, 2, 3, 4, 10]
    c67b0))), none⟩
def k67 : List (List Nat) := [[0, 2, 3, 4, 10]]
def o67 : List Nat := [1000023, 1000027, 1000029, 1000031, 1000032, 1000037, 1000041, 1000042, 1000044, 1000046, 1000047, 1000048, 1000049, 1000050, 1000051, 1000052, 1000053, 1000057, 1000058, 1000059, 1000060, 1000061, 1000062, 1000064, 1000065, 1000066, 1000067, 1000070, 1000071, 1000072, 1000073, 1000074, 1000075, 1000076, 1000077, 1000078, 1000079, 1000080, 1000081, 1000082, 1000083, 1000084, 1000085, 1000086, 1000087, 1000088, 3000000]
/-- slices.nextPowerOfTwo -/
def c68 : AFn := ⟨1, 7, [.t 2],
 (.seq
  (.reg [⟨some 2, none, .mov (.c (.int .u64 0))⟩])
  (.seq
   (.reg [⟨some 3, none, .mov (.t 0)⟩,
    ⟨some 4, none, .conv (.int .u64) (.t 3)⟩,
    ⟨some 5, none, .call false 38 [(.t 4)]⟩,
    ⟨some 6, none, .bin .shl (.c (.int .u64 1)) (.t 5)⟩,
    ⟨some 2, none, .mov (.t 6)⟩])
   .ret)), none⟩
def k68 : List (List Nat) := []
def o68 : List Nat := [1000023, 1000027, 1000029, 1000031, 1000032, 1000037, 1000041, 1000042, 1000044, 1000046, 1000047, 1000048, 1000049, 1000050, 1000051, 1000052, 1000053, 1000057, 1000058, 1000059, 1000060, 1000061, 1000062, 1000064, 1000065, 1000066, 1000067, 1000070, 1000071, 1000072, 1000073, 1000074, 1000075, 1000076, 1000077, 1000078, 1000079, 1000080, 1000081, 1000082, 1000083, 1000084, 1000085, 1000086, 1000087, 1000088, 3000000]
/-- (*slices.xorshift).Next -/
def c69 : AFn := ⟨1, 33, [.t 2],
 (.seq
  (.reg [⟨some 2, none, .mov (.c (.int .u64 0))⟩])
  (.seq
   (.reg [⟨some 3, none, .mov (.t 0)⟩,
    ⟨some 4, none, .nilck (.t 3)⟩,
    ⟨some 5, none, .load 1 false (.t 4)⟩,
    ⟨some 6, none, .mov (.t 0)⟩,
    ⟨some 7, none, .nilck (.t 6)⟩,
    ⟨some 8, none, .load 1 false (.t 7)⟩,
    ⟨some 9, none, .bin .shl (.t 8) (.c (.int .u64 13))⟩,
    ⟨some 10, none, .bin .xor (.t 5) (.t 9)⟩,
    ⟨some 11, none, .nilck (.t 3)⟩,
    ⟨none, none, .store 1 (.t 11) (.t 10)⟩])
   (.seq
    (.reg [⟨some 12, none, .mov (.t 0)⟩,
     ⟨some 13, none, .nilck (.t 12)⟩,
     ⟨some 14, none, .load 1 false (.t 13)⟩,
     ⟨some 15, none, .mov (.t 0)⟩,
     ⟨some 16, none, .nilck (.t 15)⟩,
     ⟨some 17, none, .load 1 false (.t 16)⟩,
     ⟨some 18, none, .bin .shr (.t 17) (.c (.int .u64 7))⟩,
     ⟨some 19, none, .bin .xor (.t 14) (.t 18)⟩,
     ⟨some 20, none, .nilck (.t 12)⟩,
     ⟨none, none, .store 1 (.t 20) (.t 19)⟩])
    (.seq
     (.reg [⟨some 21, none, .mov (.t 0)⟩,
      ⟨some 22, none, .nilck (.t 21)⟩,
      ⟨some 23, none, .load 1 false (.t 22)⟩,
      ⟨some 24, none, .mov (.t 0)⟩,
      ⟨some 25, none, .nilck (.t 24)⟩,
      ⟨some 26, none, .load 1 false (.t 25)⟩,
      ⟨some 27, none, .bin .shl (.t 26) (.c (.int .u64 17))⟩,
      ⟨some 28, none, .bin .xor (.t 23) (.t 27)⟩,
      ⟨some 29, none, .nilck (.t 21)⟩,
      ⟨none, none, .store 1 (.t 29) (.t 28)⟩])
     (.seq
      (.reg [⟨some 30, none, .mov (.t 0)⟩,
       ⟨some 31, none, .nilck (.t 30)⟩,
       ⟨some 32, none, .load 1 false (.t 31)⟩,
       ⟨some 2, none, .mov (.t 32)⟩])
      .ret))))), none⟩
def k69 : List (List Nat) := []
def o69 : List Nat := [1000023, 1000027, 1000029, 1000031, 1000032, 1000037, 1000041, 1000042, 1000044, 1000046, 1000047, 1000048, 1000049, 1000050, 1000051, 1000052, 1000053, 1000057, 1000058, 1000059, 1000060, 1000061, 1000062, 1000064, 1000065, 1000066, 1000067, 1000070, 1000071, 1000072, 1000073, 1000074, 1000075, 1000076, 1000077, 1000078, 1000079, 1000080, 1000081, 1000082, 1000083, 1000084, 1000085, 1000086, 1000087, 1000088, 3000000]
/-- slices.medianAdjacentCmpFunc[int] -/
def c70 : AFn := ⟨4, 18, [.t 8],
 (.seq
  (.reg [⟨some 8, none, .mov (.c (.int .i64 0))⟩])
  (.seq
   (.reg [⟨some 9, none, .mov (.t 0)⟩,
    ⟨some 10, none, .mov (.t 1)⟩,
    ⟨some 11, none, .bin .sub (.t 10) (.c (.int .i64 1))⟩,
    ⟨some 12, none, .mov (.t 1)⟩,
    ⟨some 13, none, .mov (.t 1)⟩,
    ⟨some 14, none, .bin .add (.t 13) (.c (.int .i64 1))⟩,
    ⟨some 15, none, .mov (.t 2)⟩,
    ⟨some 16, none, .mov (.t 3)⟩,
    ⟨some 17, none, .callS 71 [(.t 9), (.t 11), (.t 12), (.t 14), (.t 15), (.t 16)]⟩,
    ⟨some 8, none, .mov (.t 17)⟩])
   .ret)), none⟩
def k70 : List (List Nat) := []
def o70 : List Nat := [1000023, 1000027, 1000029, 1000031, 1000032, 1000037, 1000041, 1000042, 1000044, 1000046, 1000047, 1000048, 1000049, 1000050, 1000051, 1000052, 1000053, 1000057, 1000058, 1000059, 1000060, 1000061, 1000062, 1000064, 1000065, 1000066, 1000067, 1000070, 1000071, 1000072, 1000073, 1000074, 1000075, 1000076, 1000077, 1000078, 1000079, 1000080, 1000081, 1000082, 1000083, 1000084, 1000085, 1000086, 1000087, 1000088, 3000000]
/-- slices.medianCmpFunc[int] -/
def c71 : AFn := ⟨6, 41, [.t 12],
 (.seq
  (.reg [⟨some 12, none, .mov (.c (.int .i64 0))⟩])
  (.seq
   (.reg [⟨some 14, none, .mov (.t 0)⟩,
    ⟨some 15, none, .mov (.t 1)⟩,
    ⟨some 16, none, .mov (.t 2)⟩,
    ⟨some 17, none, .mov (.t 4)⟩,
    ⟨some 18, none, .mov (.t 5)⟩,
    ⟨some 19, none, .callS 83 [(.t 14), (.t 15), (.t 16), (.t 17), (.t 18)]⟩,
    ⟨some 13, none, .mov (.t 19)⟩,
    ⟨some 20, none, .ext (.t 13) 0⟩,
    ⟨some 21, none, .ext (.t 13) 1⟩,
    ⟨some 1, none, .mov (.t 20)⟩,
    ⟨some 2, none, .mov (.t 21)⟩])
   (.seq
    (.reg [⟨some 23, none, .mov (.t 0)⟩,
     ⟨some 24, none, .mov (.t 2)⟩,
     ⟨some 25, none, .mov (.t 3)⟩,
     ⟨some 26, none, .mov (.t 4)⟩,
     ⟨some 27, none, .mov (.t 5)⟩,
     ⟨some 28, none, .callS 83 [(.t 23), (.t 24), (.t 25), (.t 26), (.t 27)]⟩,
     ⟨some 22, none, .mov (.t 28)⟩,
     ⟨some 29, none, .ext (.t 22) 0⟩,
     ⟨some 30, none, .ext (.t 22) 1⟩,
     ⟨some 2, none, .mov (.t 29)⟩,
     ⟨some 3, none, .mov (.t 30)⟩])
    (.seq
     (.reg [⟨some 32, none, .mov (.t 0)⟩,
      ⟨some 33, none, .mov (.t 1)⟩,
      ⟨some 34, none, .mov (.t 2)⟩,
      ⟨some 35, none, .mov (.t 4)⟩,
      ⟨some 36, none, .mov (.t 5)⟩,
      ⟨some 37, none, .callS 83 [(.t 32), (.t 33), (.t 34), (.t 35), (.t 36)]⟩,
      ⟨some 31, none, .mov (.t 37)⟩,
      ⟨some 38, none, .ext (.t 31) 0⟩,
      ⟨some 39, none, .ext (.t 31) 1⟩,
      ⟨some 1, none, .mov (.t 38)⟩,
      ⟨some 2, none, .mov (.t 39)⟩])
     (.seq
      (.reg [⟨some 40, none, .mov (.t 2)⟩,
       ⟨some 12, none, .mov (.t 40)⟩])
      .ret))))), none⟩
def k71 : List (List Nat) := []
def o71 : List Nat := [1000023, 1000027, 1000029, 1000031, 1000032, 1000037, 1000041, 1000042, 1000044, 1000046, 1000047, 1000048, 1000049, 1000050, 1000051, 1000052, 1000053, 1000057, 1000058, 1000059, 1000060, 1000061, 1000062, 1000064, 1000065, 1000066, 1000067, 1000070, 1000071, 1000072, 1000073, 1000074, 1000075, 1000076, 1000077, 1000078, 1000079, 1000080, 1000081, 1000082, 1000083, 1000084, 1000085, 1000086, 1000087, 1000088, 3000000]
def c72b0 : AC := (.block 1
     (.seq
      (.reg [⟨some 11, none, .mov (.t 8)⟩,
       ⟨some 12, none, .bin .mul (.c (.int .i64 2)) (.t 11)⟩,
       ⟨some 13, none, .bin .add (.t 12) (.c (.int .i64 1))⟩,
       ⟨some 9, none, .mov (.t 13)⟩])
      (.seq
       (.seq
        (.reg [⟨some 14, none, .mov (.t 9)⟩,
         ⟨some 15, none, .mov (.t 2)⟩,
         ⟨some 16, none, .bin .geq (.t 14) (.t 15)⟩])
        (.cond (.t 16)
         (.exit 0)
         .skip))
       (.seq
        (.seq
         (.reg [⟨some 17, none, .mov (.t 9)⟩,
          ⟨some 18, none, .bin .add (.t 17) (.c (.int .i64 1))⟩,
          ⟨some 19, none, .mov (.t 2)⟩,
          ⟨some 20, none, .bin .lss (.t 18) (.t 19)⟩,
          ⟨some 21, none, .mov (.t 20)⟩,
          ⟨some 22, some (21, true), .mov (.t 0)⟩,
          ⟨some 23, some (21, true), .mov (.t 3)⟩,
          ⟨some 24, some (21, true), .mov (.t 9)⟩,
          ⟨some 25, some (21, true), .bin .add (.t 23) (.t 24)⟩,
          ⟨some 26, some (21, true), .iaddr (.slice 1) (.t 22) (.t 25)⟩,
          ⟨some 27, some (21, true), .load 1 false (.t 26)⟩,
          ⟨some 28, some (21, true), .mov (.t 0)⟩,
          ⟨some 29, some (21, true), .mov (.t 3)⟩,
          ⟨some 30, some (21, true), .mov (.t 9)⟩,
          ⟨some 31, some (21, true), .bin .add (.t 29) (.t 30)⟩,
          ⟨some 32, some (21, true), .bin .add (.t 31) (.c (.int .i64 1))⟩,
          ⟨some 33, some (21, true), .iaddr (.slice 1) (.t 28) (.t 32)⟩,
          ⟨some 34, some (21, true), .load 1 false (.t 33)⟩,
          ⟨some 35, some (21, true), .call false 63 [(.t 27), (.t 34)]⟩,
          ⟨some 36, none, .pick (.t 21) (.t 35) (.c (.bool false))⟩])
         (.cond (.t 36)
          (.reg [⟨some 37, none, .mov (.t 9)⟩,
           ⟨some 38, none, .bin .add (.t 37) (.c (.int .i64 1))⟩,
           ⟨some 9, none, .mov (.t 38)⟩])
          .skip))
        (.seq
         (.seq
          (.reg [⟨some 39, none, .mov (.t 0)⟩,
           ⟨some 40, none, .mov (.t 3)⟩,
           ⟨some 41, none, .mov (.t 8)⟩,
           ⟨some 42, none, .bin .add (.t 40) (.t 41)⟩,
           ⟨some 43, none, .iaddr (.slice 1) (.t 39) (.t 42)⟩,
           ⟨some 44, none, .load 1 false (.t 43)⟩,
           ⟨some 45, none, .mov (.t 0)⟩,
           ⟨some 46, none, .mov (.t 3)⟩,
           ⟨some 47, none, .mov (.t 9)⟩,
           ⟨some 48, none, .bin .add (.t 46) (.t 47)⟩,
           ⟨some 49, none, .iaddr (.slice 1) (.t 45) (.t 48)⟩,
           ⟨some 50, none, .load 1 false (.t 49)⟩,
           ⟨some 51, none, .call false 63 [(.t 44), (.t 50)]⟩,
           ⟨some 52, none, .un .not (.t 51)⟩])
          (.cond (.t 52)
           .ret
           .skip))
         (.seq
          (.reg [⟨some 53, none, .mov (.t 0)⟩,
           ⟨some 54, none, .mov (.t 3)⟩,
           ⟨some 55, none, .mov (.t 8)⟩,
           ⟨some 56, none, .bin .add (.t 54) (.t 55)⟩,
           ⟨some 57, none, .mov (.t 0)⟩,
           ⟨some 58, none, .mov (.t 3)⟩,
           ⟨some 59, none, .mov (.t 9)⟩,
           ⟨some 60, none, .bin .add (.t 58) (.t 59)⟩,
           ⟨some 61, none, .mov (.t 0)⟩,
           ⟨some 62, none, .mov (.t 3)⟩,
           ⟨some 63, none, .mov (.t 9)⟩,
           ⟨some 64, none, .bin .add (.t 62) (.t 63)⟩,
           ⟨some 65, none, .iaddr (.slice 1) (.t 61) (.t 64)⟩,
           ⟨some 66, none, .load 1 false (.t 65)⟩,
           ⟨some 67, none, .mov (.t 0)⟩,
           ⟨some 68, none, .mov (.t 3)⟩,
           ⟨some 69, none, .mov (.t 8)⟩,
           ⟨some 70, none, .bin .add (.t 68) (.t 69)⟩,
           ⟨some 71, none, .iaddr (.slice 1) (.t 67) (.t 70)⟩,
           ⟨some 72, none, .load 1 false (.t 71)⟩,
           ⟨some 73, none, .iaddr (.slice 1) (.t 53) (.t 56)⟩,
           ⟨none, none, .store 1 (.t 73) (.t 66)⟩,
           ⟨some 74, none, .iaddr (.slice 1) (.t 57) (.t 60)⟩,
           ⟨none, none, .store 1 (.t 74) (.t 72)⟩])
          (.reg [⟨some 75, none, .mov (.t 9)⟩,
           ⟨some 8, none, .mov (.t 75)⟩])))))))
/-- slices.siftDownOrdered[int] -/
def c72 : AFn := ⟨4, 76, [],
 (.seq
  (.reg [⟨some 10, none, .mov (.t 1)⟩,
   ⟨some 8, none, .mov (.t 10)⟩])
  (.block 0
   (.loop [0, 2, 3, 8]
    c72b0))), none⟩
def k72 : List (List Nat) := [[0, 2, 3, 8]]
def o72 : List Nat := [1000023, 1000027, 1000029, 1000031, 1000032, 1000037, 1000041, 1000042, 1000044, 1000046, 1000047, 1000048, 1000049, 1000050, 1000051, 1000052, 1000053, 1000057, 1000058, 1000059, 1000060, 1000061, 1000062, 1000064, 1000065, 1000066, 1000067, 1000070, 1000071, 1000072, 1000073, 1000074, 1000075, 1000076, 1000077, 1000078, 1000079, 1000080, 1000081, 1000082, 1000083, 1000084, 1000085, 1000086, 1000087, 1000088, 3000000]
/-- slices.medianAdjacentOrdered[int] -/
def c73 : AFn := ⟨3, 15, [.t 6],
 (.seq
  (.reg [⟨some 6, none, .mov (.c (.int .i64 0))⟩])
  (.seq
   (.reg [⟨some 7, none, .mov (.t 0)⟩,
    ⟨some 8, none, .mov (.t 1)⟩,
    ⟨some 9, none, .bin .sub (.t 8) (.c (.int .i64 1))⟩,
    ⟨some 10, none, .mov (.t 1)⟩,
    ⟨some 11, none, .mov (.t 1)⟩,
    ⟨some 12, none, .bin .add (.t 11) (.c (.int .i64 1))⟩,
    ⟨some 13, none, .mov (.t 2)⟩,
    ⟨some 14, none, .callS 74 [(.t 7), (.t 9), (.t 10), (.t 12), (.t 13)]⟩,
    ⟨some 6, none, .mov (.t 14)⟩])
   .ret)), none⟩
def k73 : List (List Nat) := []
def o73 : List Nat := [1000023, 1000027, 1000029, 1000031, 1000032, 1000037, 1000041, 1000042, 1000044, 1000046, 1000047, 1000048, 1000049, 1000050, 1000051, 1000052, 1000053, 1000057, 1000058, 1000059, 1000060, 1000061, 1000062, 1000064, 1000065, 1000066, 1000067, 1000070, 1000071, 1000072, 1000073, 1000074, 1000075, 1000076, 1000077, 1000078, 1000079, 1000080, 1000081, 1000082, 1000083, 1000084, 1000085, 1000086, 1000087, 1000088, 3000000]
/-- slices.medianOrdered[int] -/
def c74 : AFn := ⟨5, 36, [.t 10],
 (.seq
  (.reg [⟨some 10, none, .mov (.c (.int .i64 0))⟩])
  (.seq
   (.reg [⟨some 12, none, .mov (.t 0)⟩,
    ⟨some 13, none, .mov (.t 1)⟩,
    ⟨some 14, none, .mov (.t 2)⟩,
    ⟨some 15, none, .mov (.t 4)⟩,
    ⟨some 16, none, .callS 84 [(.t 12), (.t 13), (.t 14), (.t 15)]⟩,
    ⟨some 11, none, .mov (.t 16)⟩,
    ⟨some 17, none, .ext (.t 11) 0⟩,
    ⟨some 18, none, .ext (.t 11) 1⟩,
    ⟨some 1, none, .mov (.t 17)⟩,
    ⟨some 2, none, .mov (.t 18)⟩])
   (.seq
    (.reg [⟨some 20, none, .mov (.t 0)⟩,
     ⟨some 21, none, .mov (.t 2)⟩,
     ⟨some 22, none, .mov (.t 3)⟩,
     ⟨some 23, none, .mov (.t 4)⟩,
     ⟨some 24, none, .callS 84 [(.t 20), (.t 21), (.t 22), (.t 23)]⟩,
     ⟨some 19, none, .mov (.t 24)⟩,
     ⟨some 25, none, .ext (.t 19) 0⟩,
     ⟨some 26, none, .ext (.t 19) 1⟩,
     ⟨some 2, none, .mov (.t 25)⟩,
     ⟨some 3, none, .mov (.t 26)⟩])
    (.seq
     (.reg [⟨some 28, none, .mov (.t 0)⟩,
      ⟨some 29, none, .mov (.t 1)⟩,
      ⟨some 30, none, .mov (.t 2)⟩,
      ⟨some 31, none, .mov (.t 4)⟩,
      ⟨some 32, none, .callS 84 [(.t 28), (.t 29), (.t 30), (.t 31)]⟩,
      ⟨some 27, none, .mov (.t 32)⟩,
      ⟨some 33, none, .ext (.t 27) 0⟩,
      ⟨some 34, none, .ext (.t 27) 1⟩,
      ⟨some 1, none, .mov (.t 33)⟩,
      ⟨some 2, none, .mov (.t 34)⟩])
     (.seq
      (.reg [⟨some 35, none, .mov (.t 2)⟩,
       ⟨some 10, none, .mov (.t 35)⟩])
      .ret))))), none⟩
def k74 : List (List Nat) := []
def o74 : List Nat := [1000023, 1000027, 1000029, 1000031, 1000032, 1000037, 1000041, 1000042, 1000044, 1000046, 1000047, 1000048, 1000049, 1000050, 1000051, 1000052, 1000053, 1000057, 1000058, 1000059, 1000060, 1000061, 1000062, 1000064, 1000065, 1000066, 1000067, 1000070, 1000071, 1000072, 1000073, 1000074, 1000075, 1000076, 1000077, 1000078, 1000079, 1000080, 1000081, 1000082, 1000083, 1000084, 1000085, 1000086, 1000087, 1000088, 3000000]
def c75b0 : AC := (.seq
           (.seq
            (.reg [⟨some 18, none, .mov (.t 9)⟩,
             ⟨some 19, none, .mov (.t 1)⟩,
             ⟨some 20, none, .bin .gtr (.t 18) (.t 19)⟩,
             ⟨some 21, none, .mov (.t 20)⟩,
             ⟨some 22, some (21, true), .mov (.t 3)⟩,
             ⟨some 23, some (21, true), .mov (.t 0)⟩,
             ⟨some 24, some (21, true), .mov (.t 9)⟩,
             ⟨some 25, some (21, true), .iaddr (.slice 2) (.t 23) (.t 24)⟩,
             ⟨some 26, some (21, true), .load 2 true (.t 25)⟩,
             ⟨some 27, some (21, true), .mov (.t 0)⟩,
             ⟨some 28, some (21, true), .mov (.t 9)⟩,
             ⟨some 29, some (21, true), .bin .sub (.t 28) (.c (.int .i64 1))⟩,
             ⟨some 30, some (21, true), .iaddr (.slice 2) (.t 27) (.t 29)⟩,
             ⟨some 31, some (21, true), .load 2 true (.t 30)⟩,
             ⟨some 32, some (21, true), .calld false (.t 22) [(.t 26), (.t 31)]⟩,
             ⟨some 33, some (21, true), .bin .lss (.t 32) (.c (.int .i64 0))⟩,
             ⟨some 34, none, .pick (.t 21) (.t 33) (.c (.bool false))⟩])
            (.cond (.t 34)
             .skip
             (.exit 2)))
           (.seq
            (.block 3
             (.reg [⟨some 37, none, .mov (.t 0)⟩,
              ⟨some 38, none, .mov (.t 9)⟩,
              ⟨some 39, none, .mov (.t 0)⟩,
              ⟨some 40, none, .mov (.t 9)⟩,
              ⟨some 41, none, .bin .sub (.t 40) (.c (.int .i64 1))⟩,
              ⟨some 42, none, .mov (.t 0)⟩,
              ⟨some 43, none, .mov (.t 9)⟩,
              ⟨some 44, none, .bin .sub (.t 43) (.c (.int .i64 1))⟩,
              ⟨some 45, none, .iaddr (.slice 2) (.t 42) (.t 44)⟩,
              ⟨some 46, none, .load 2 true (.t 45)⟩,
              ⟨some 47, none, .mov (.t 0)⟩,
              ⟨some 48, none, .mov (.t 9)⟩,
              ⟨some 49, none, .iaddr (.slice 2) (.t 47) (.t 48)⟩,
              ⟨some 50, none, .load 2 true (.t 49)⟩,
              ⟨some 51, none, .iaddr (.slice 2) (.t 37) (.t 38)⟩,
              ⟨none, none, .store 2 (.t 51) (.t 46)⟩,
              ⟨some 52, none, .iaddr (.slice 2) (.t 39) (.t 41)⟩,
              ⟨none, none, .store 2 (.t 52) (.t 50)⟩]))
            (.reg [⟨some 35, none, .mov (.t 9)⟩,
             ⟨some 36, none, .bin .sub (.t 35) (.c (.int .i64 1))⟩,
             ⟨some 9, none, .mov (.t 36)⟩])))
def c75b1 : AC := (.seq
     (.seq
      (.reg [⟨some 12, none, .mov (.t 8)⟩,
       ⟨some 13, none, .mov (.t 2)⟩,
       ⟨some 14, none, .bin .lss (.t 12) (.t 13)⟩])
      (.cond (.t 14)
       .skip
       (.exit 0)))
     (.seq
      (.block 1
       (.seq
        (.reg [⟨some 17, none, .mov (.t 8)⟩,
         ⟨some 9, none, .mov (.t 17)⟩])
        (.block 2
         (.loop [0, 1, 2, 3, 8, 9]
          c75b0))))
      (.reg [⟨some 15, none, .mov (.t 8)⟩,
       ⟨some 16, none, .bin .add (.t 15) (.c (.int .i64 1))⟩,
       ⟨some 8, none, .mov (.t 16)⟩])))
/-- slices.insertionSortCmpFunc[tracebook/api.Span] -/
def c75 : AFn := ⟨4, 53, [],
 (.seq
  (.reg [⟨some 10, none, .mov (.t 1)⟩,
   ⟨some 11, none, .bin .add (.t 10) (.c (.int .i64 1))⟩,
   ⟨some 8, none, .mov (.t 11)⟩])
  (.block 0
   (.loop [0, 1, 2, 3, 8]
    c75b1))), none⟩
def k75 : List (List Nat) := [[0, 1, 2, 3, 8], [0, 1, 2, 3, 8, 9]]
def o75 : List Nat := [1000023, 1000027, 1000029, 1000031, 1000032, 1000037, 1000041, 1000042, 1000044, 1000046, 1000047, 1000048, 1000049, 1000050, 1000051, 1000052, 1000053, 1000057, 1000058, 1000059, 1000060, 1000061, 1000062, 1000064, 1000065, 1000066, 1000067, 1000070, 1000071, 1000072, 1000073, 1000074, 1000075, 1000076, 1000077, 1000078, 1000079, 1000080, 1000081, 1000082, 1000083, 1000084, 1000085, 1000086, 1000087, 1000088, 3000000]
def c76b0 : AC := (.seq
         (.seq
          (.reg [⟨some 32, none, .mov (.t 12)⟩,
           ⟨some 33, none, .bin .geq (.t 32) (.c (.int .i64 0))⟩])
          (.cond (.t 33)
           .skip
           (.exit 2)))
         (.seq
          (.block 3
           (.seq
            (.reg [⟨some 36, none, .mov (.t 0)⟩,
             ⟨some 37, none, .mov (.t 8)⟩,
             ⟨some 38, none, .mov (.t 0)⟩,
             ⟨some 39, none, .mov (.t 8)⟩,
             ⟨some 40, none, .mov (.t 12)⟩,
             ⟨some 41, none, .bin .add (.t 39) (.t 40)⟩,
             ⟨some 42, none, .mov (.t 0)⟩,
             ⟨some 43, none, .mov (.t 8)⟩,
             ⟨some 44, none, .mov (.t 12)⟩,
             ⟨some 45, none, .bin .add (.t 43) (.t 44)⟩,
             ⟨some 46, none, .iaddr (.slice 2) (.t 42) (.t 45)⟩,
             ⟨some 47, none, .load 2 true (.t 46)⟩,
             ⟨some 48, none, .mov (.t 0)⟩,
             ⟨some 49, none, .mov (.t 8)⟩,
             ⟨some 50, none, .iaddr (.slice 2) (.t 48) (.t 49)⟩,
             ⟨some 51, none, .load 2 true (.t 50)⟩,
             ⟨some 52, none, .iaddr (.slice 2) (.t 36) (.t 37)⟩,
             ⟨none, none, .store 2 (.t 52) (.t 47)⟩,
             ⟨some 53, none, .iaddr (.slice 2) (.t 38) (.t 41)⟩,
             ⟨none, none, .store 2 (.t 53) (.t 51)⟩])
            (.reg [⟨some 54, none, .mov (.t 0)⟩,
             ⟨some 55, none, .mov (.t 9)⟩,
             ⟨some 56, none, .mov (.t 12)⟩,
             ⟨some 57, none, .mov (.t 8)⟩,
             ⟨some 58, none, .mov (.t 3)⟩,
             ⟨some 59, none, .callS 85 [(.t 54), (.t 55), (.t 56), (.t 57), (.t 58)]⟩])))
          (.reg [⟨some 34, none, .mov (.t 12)⟩,
           ⟨some 35, none, .bin .sub (.t 34) (.c (.int .i64 1))⟩,
           ⟨some 12, none, .mov (.t 35)⟩])))
def c76b1 : AC := (.seq
         (.seq
          (.reg [⟨some 20, none, .mov (.t 11)⟩,
           ⟨some 21, none, .bin .geq (.t 20) (.c (.int .i64 0))⟩])
          (.cond (.t 21)
           .skip
           (.exit 0)))
         (.seq
          (.block 1
           (.reg [⟨some 24, none, .mov (.t 0)⟩,
            ⟨some 25, none, .mov (.t 11)⟩,
            ⟨some 26, none, .mov (.t 10)⟩,
            ⟨some 27, none, .mov (.t 8)⟩,
            ⟨some 28, none, .mov (.t 3)⟩,
            ⟨some 29, none, .callS 85 [(.t 24), (.t 25), (.t 26), (.t 27), (.t 28)]⟩]))
          (.reg [⟨some 22, none, .mov (.t 11)⟩,
           ⟨some 23, none, .bin .sub (.t 22) (.c (.int .i64 1))⟩,
           ⟨some 11, none, .mov (.t 23)⟩])))
def c76r0 : AC := (.seq
      (.reg [⟨some 30, none, .mov (.t 10)⟩,
       ⟨some 31, none, .bin .sub (.t 30) (.c (.int .i64 1))⟩,
       ⟨some 12, none, .mov (.t 31)⟩])
      (.block 2
       (.loop [0, 3, 8, 9, 12]
        c76b0)))
/-- slices.heapSortCmpFunc[tracebook/api.Span] -/
def c76 : AFn := ⟨4, 60, [],
 (.seq
  (.reg [⟨some 13, none, .mov (.t 1)⟩,
   ⟨some 8, none, .mov (.t 13)⟩])
  (.seq
   (.reg [⟨some 9, none, .mov (.c (.int .i64 0))⟩])
   (.seq
    (.reg [⟨some 14, none, .mov (.t 2)⟩,
     ⟨some 15, none, .mov (.t 1)⟩,
     ⟨some 16, none, .bin .sub (.t 14) (.t 15)⟩,
     ⟨some 10, none, .mov (.t 16)⟩])
    (.seq
     (.seq
      (.reg [⟨some 17, none, .mov (.t 10)⟩,
       ⟨some 18, none, .bin .sub (.t 17) (.c (.int .i64 1))⟩,
       ⟨some 19, none, .bin .quo (.t 18) (.c (.int .i64 2))⟩,
       ⟨some 11, none, .mov (.t 19)⟩])
      (.block 0
       (.loop [0, 3, 8, 9, 10, 11]
        c76b1)))
     c76r0)))), none⟩
def k76 : List (List Nat) := [[0, 3, 8, 9, 10, 11], [0, 3, 8, 9, 12]]
def o76 : List Nat := [1000023, 1000027, 1000029, 1000031, 1000032, 1000037, 1000041, 1000042, 1000044, 1000046, 1000047, 1000048, 1000049, 1000050, 1000051, 1000052, 1000053, 1000057, 1000058, 1000059, 1000060, 1000061, 1000062, 1000064, 1000065, 1000066, 1000067, 1000070, 1000071, 1000072, 1000073, 1000074, 1000075, 1000076, 1000077, 1000078, 1000079, 1000080, 1000081, 1000082, 1000083, 1000084, 1000085, 1000086, 1000087, 1000088, 3000000]
def c77b0 : AC := (.seq
          (.seq
           (.reg [⟨some 28, none, .mov (.t 11)⟩,
            ⟨some 29, none, .mov (.t 1)⟩,
            ⟨some 30, none, .mov (.t 8)⟩,
            ⟨some 31, none, .bin .quo (.t 30) (.c (.int .i64 4))⟩,
            ⟨some 32, none, .bin .mul (.t 31) (.c (.int .i64 2))⟩,
            ⟨some 33, none, .bin .add (.t 29) (.t 32)⟩,
            ⟨some 34, none, .bin .add (.t 33) (.c (.int .i64 1))⟩,
            ⟨some 35, none, .bin .leq (.t 28) (.t 34)⟩])
           (.cond (.t 35)
            .skip
            (.exit 0)))
          (.seq
           (.block 1
            (.seq
             (.reg [⟨some 38, none, .call false 69 [(.t 9)]⟩,
              ⟨some 39, none, .mov (.t 10)⟩,
              ⟨some 40, none, .bin .sub (.t 39) (.c (.int .u64 1))⟩,
              ⟨some 41, none, .bin .and (.t 38) (.t 40)⟩,
              ⟨some 42, none, .conv (.int .i64) (.t 41)⟩,
              ⟨some 12, none, .mov (.t 42)⟩])
             (.seq
              (.seq
               (.reg [⟨some 43, none, .mov (.t 12)⟩,
                ⟨some 44, none, .mov (.t 8)⟩,
                ⟨some 45, none, .bin .geq (.t 43) (.t 44)⟩])
               (.cond (.t 45)
                (.reg [⟨some 46, none, .mov (.t 12)⟩,
                 ⟨some 47, none, .mov (.t 8)⟩,
                 ⟨some 48, none, .bin .sub (.t 46) (.t 47)⟩,
                 ⟨some 12, none, .mov (.t 48)⟩])
                .skip))
              (.reg [⟨some 49, none, .mov (.t 0)⟩,
               ⟨some 50, none, .mov (.t 11)⟩,
               ⟨some 51, none, .mov (.t 0)⟩,
               ⟨some 52, none, .mov (.t 1)⟩,
               ⟨some 53, none, .mov (.t 12)⟩,
               ⟨some 54, none, .bin .add (.t 52) (.t 53)⟩,
               ⟨some 55, none, .mov (.t 0)⟩,
               ⟨some 56, none, .mov (.t 1)⟩,
               ⟨some 57, none, .mov (.t 12)⟩,
               ⟨some 58, none, .bin .add (.t 56) (.t 57)⟩,
               ⟨some 59, none, .iaddr (.slice 2) (.t 55) (.t 58)⟩,
               ⟨some 60, none, .load 2 true (.t 59)⟩,
               ⟨some 61, none, .mov (.t 0)⟩,
               ⟨some 62, none, .mov (.t 11)⟩,
               ⟨some 63, none, .iaddr (.slice 2) (.t 61) (.t 62)⟩,
               ⟨some 64, none, .load 2 true (.t 63)⟩,
               ⟨some 65, none, .iaddr (.slice 2) (.t 49) (.t 50)⟩,
               ⟨none, none, .store 2 (.t 65) (.t 60)⟩,
               ⟨some 66, none, .iaddr (.slice 2) (.t 51) (.t 54)⟩,
               ⟨none, none, .store 2 (.t 66) (.t 64)⟩]))))
           (.reg [⟨some 36, none, .mov (.t 11)⟩,
            ⟨some 37, none, .bin .add (.t 36) (.c (.int .i64 1))⟩,
            ⟨some 11, none, .mov (.t 37)⟩])))
/-- slices.breakPatternsCmpFunc[tracebook/api.Span] -/
def c77 : AFn := ⟨4, 67, [],
 (.seq
  (.reg [⟨some 13, none, .mov (.t 2)⟩,
   ⟨some 14, none, .mov (.t 1)⟩,
   ⟨some 15, none, .bin .sub (.t 13) (.t 14)⟩,
   ⟨some 8, none, .mov (.t 15)⟩])
  (.seq
   (.reg [⟨some 16, none, .mov (.t 8)⟩,
    ⟨some 17, none, .bin .geq (.t 16) (.c (.int .i64 8))⟩])
   (.cond (.t 17)
    (.seq
     (.reg [⟨some 18, none, .mov (.t 8)⟩,
      ⟨some 19, none, .conv (.int .u64) (.t 18)⟩,
      ⟨some 9, none, .alloc [(.int .u64 0)]⟩,
      ⟨none, none, .store 1 (.t 9) (.t 19)⟩])
     (.seq
      (.reg [⟨some 20, none, .mov (.t 8)⟩,
       ⟨some 21, none, .call false 68 [(.t 20)]⟩,
       ⟨some 10, none, .mov (.t 21)⟩])
      (.seq
       (.reg [⟨some 22, none, .mov (.t 1)⟩,
        ⟨some 23, none, .mov (.t 8)⟩,
        ⟨some 24, none, .bin .quo (.t 23) (.c (.int .i64 4))⟩,
        ⟨some 25, none, .bin .mul (.t 24) (.c (.int .i64 2))⟩,
        ⟨some 26, none, .bin .add (.t 22) (.t 25)⟩,
        ⟨some 27, none, .bin .sub (.t 26) (.c (.int .i64 1))⟩,
        ⟨some 11, none, .mov (.t 27)⟩])
       (.block 0
        (.loop [0, 1, 8, 9, 10, 11]
         c77b0)))))
    .skip))), none⟩
def k77 : List (List Nat) := [[0, 1, 8, 9, 10, 11]]
def o77 : List Nat := [1000023, 1000027, 1000029, 1000031, 1000032, 1000037, 1000041, 1000042, 1000044, 1000046, 1000047, 1000048, 1000049, 1000050, 1000051, 1000052, 1000053, 1000057, 1000058, 1000059, 1000060, 1000061, 1000062, 1000064, 1000065, 1000066, 1000067, 1000070, 1000071, 1000072, 1000073, 1000074, 1000075, 1000076, 1000077, 1000078, 1000079, 1000080, 1000081, 1000082, 1000083, 1000084, 1000085, 1000086, 1000087, 1000088, 3000000]
/-- slices.choosePivotCmpFunc[tracebook/api.Span] -/
def c78 : AFn := ⟨4, 63, [.t 8, .t 9],
 (.seq
  (.reg [⟨some 8, none, .mov (.c (.int .i64 0))⟩,
   ⟨some 9, none, .mov (.c (.int .i64 0))⟩])
  (.seq
   (.reg [⟨some 15, none, .mov (.t 2)⟩,
    ⟨some 16, none, .mov (.t 1)⟩,
    ⟨some 17, none, .bin .sub (.t 15) (.t 16)⟩,
    ⟨some 10, none, .mov (.t 17)⟩])
   (.seq
    (.reg [⟨some 11, none, .alloc [(.int .i64 0)]⟩])
    (.seq
     (.reg [⟨some 18, none, .mov (.t 1)⟩,
      ⟨some 19, none, .mov (.t 10)⟩,
      ⟨some 20, none, .bin .quo (.t 19) (.c (.int .i64 4))⟩,
      ⟨some 21, none, .bin .mul (.t 20) (.c (.int .i64 1))⟩,
      ⟨some 22, none, .bin .add (.t 18) (.t 21)⟩,
      ⟨some 12, none, .mov (.t 22)⟩])
     (.seq
      (.reg [⟨some 23, none, .mov (.t 1)⟩,
       ⟨some 24, none, .mov (.t 10)⟩,
       ⟨some 25, none, .bin .quo (.t 24) (.c (.int .i64 4))⟩,
       ⟨some 26, none, .bin .mul (.t 25) (.c (.int .i64 2))⟩,
       ⟨some 27, none, .bin .add (.t 23) (.t 26)⟩,
       ⟨some 13, none, .mov (.t 27)⟩])
      (.seq
       (.reg [⟨some 28, none, .mov (.t 1)⟩,
        ⟨some 29, none, .mov (.t 10)⟩,
        ⟨some 30, none, .bin .quo (.t 29) (.c (.int .i64 4))⟩,
        ⟨some 31, none, .bin .mul (.t 30) (.c (.int .i64 3))⟩,
        ⟨some 32, none, .bin .add (.t 28) (.t 31)⟩,
        ⟨some 14, none, .mov (.t 32)⟩])
       (.seq
        (.seq
         (.reg [⟨some 33, none, .mov (.t 10)⟩,
          ⟨some 34, none, .bin .geq (.t 33) (.c (.int .i64 8))⟩])
         (.cond (.t 34)
          (.seq
           (.seq
            (.reg [⟨some 35, none, .mov (.t 10)⟩,
             ⟨some 36, none, .bin .geq (.t 35) (.c (.int .i64 50))⟩])
            (.cond (.t 36)
             (.seq
              (.reg [⟨some 37, none, .mov (.t 0)⟩,
               ⟨some 38, none, .mov (.t 12)⟩,
               ⟨some 39, none, .mov (.t 3)⟩,
               ⟨some 40, none, .callS 86 [(.t 37), (.t 38), (.t 11), (.t 39)]⟩,
               ⟨some 12, none, .mov (.t 40)⟩])
              (.seq
               (.reg [⟨some 41, none, .mov (.t 0)⟩,
                ⟨some 42, none, .mov (.t 13)⟩,
                ⟨some 43, none, .mov (.t 3)⟩,
                ⟨some 44, none, .callS 86 [(.t 41), (.t 42), (.t 11), (.t 43)]⟩,
                ⟨some 13, none, .mov (.t 44)⟩])
               (.reg [⟨some 45, none, .mov (.t 0)⟩,
                ⟨some 46, none, .mov (.t 14)⟩,
                ⟨some 47, none, .mov (.t 3)⟩,
                ⟨some 48, none, .callS 86 [(.t 45), (.t 46), (.t 11), (.t 47)]⟩,
                ⟨some 14, none, .mov (.t 48)⟩])))
             .skip))
           (.reg [⟨some 49, none, .mov (.t 0)⟩,
            ⟨some 50, none, .mov (.t 12)⟩,
            ⟨some 51, none, .mov (.t 13)⟩,
            ⟨some 52, none, .mov (.t 14)⟩,
            ⟨some 53, none, .mov (.t 3)⟩,
            ⟨some 54, none, .callS 87 [(.t 49), (.t 50), (.t 51), (.t 52), (.t 11), (.t 53)]⟩,
            ⟨some 13, none, .mov (.t 54)⟩]))
          .skip))
        (.seq
         (.reg [⟨some 55, none, .load 1 false (.t 11)⟩])
         (.block 0
          (.seq
           (.reg [⟨some 58, none, .bin .eql (.t 55) (.c (.int .i64 0))⟩,
            ⟨some 57, none, .mov (.t 58)⟩])
           (.cond (.t 57)
            (.seq
             (.reg [⟨some 59, none, .mov (.t 13)⟩,
              ⟨some 8, none, .mov (.t 59)⟩,
              ⟨some 9, none, .mov (.c (.int .i64 1))⟩])
             .ret)
            (.seq
             (.reg [⟨some 61, none, .bin .eql (.t 55) (.c (.int .i64 12))⟩,
              ⟨some 60, none, .mov (.t 61)⟩])
             (.cond (.t 60)
              (.seq
               (.reg [⟨some 62, none, .mov (.t 13)⟩,
                ⟨some 8, none, .mov (.t 62)⟩,
                ⟨some 9, none, .mov (.c (.int .i64 2))⟩])
               .ret)
              (.seq
               (.reg [⟨some 56, none, .mov (.t 13)⟩,
                ⟨some 8, none, .mov (.t 56)⟩,
                ⟨some 9, none, .mov (.c (.int .i64 0))⟩])
               .ret)))))))))))))), none⟩
def k78 : List (List Nat) := []
def o78 : List Nat := [1000023, 1000027, 1000029, 1000031, 1000032, 1000037, 1000041, 1000042, 1000044, 1000046, 1000047, 1000048, 1000049, 1000050, 1000051, 1000052, 1000053, 1000057, 1000058, 1000059, 1000060, 1000061, 1000062, 1000064, 1000065, 1000066, 1000067, 1000070, 1000071, 1000072, 1000073, 1000074, 1000075, 1000076, 1000077, 1000078, 1000079, 1000080, 1000081, 1000082, 1000083, 1000084, 1000085, 1000086, 1000087, 1000088, 3000000]
def c79b0 : AC := (.seq
      (.seq
       (.reg [⟨some 13, none, .mov (.t 8)⟩,
        ⟨some 14, none, .mov (.t 9)⟩,
        ⟨some 15, none, .bin .lss (.t 13) (.t 14)⟩])
       (.cond (.t 15)
        .skip
        (.exit 0)))
      (.block 1
       (.seq
        (.reg [⟨some 16, none, .mov (.t 0)⟩,
         ⟨some 17, none, .mov (.t 8)⟩,
         ⟨some 18, none, .mov (.t 0)⟩,
         ⟨some 19, none, .mov (.t 9)⟩,
         ⟨some 20, none, .mov (.t 0)⟩,
         ⟨some 21, none, .mov (.t 9)⟩,
         ⟨some 22, none, .iaddr (.slice 2) (.t 20) (.t 21)⟩,
         ⟨some 23, none, .load 2 true (.t 22)⟩,
         ⟨some 24, none, .mov (.t 0)⟩,
         ⟨some 25, none, .mov (.t 8)⟩,
         ⟨some 26, none, .iaddr (.slice 2) (.t 24) (.t 25)⟩,
         ⟨some 27, none, .load 2 true (.t 26)⟩,
         ⟨some 28, none, .iaddr (.slice 2) (.t 16) (.t 17)⟩,
         ⟨none, none, .store 2 (.t 28) (.t 23)⟩,
         ⟨some 29, none, .iaddr (.slice 2) (.t 18) (.t 19)⟩,
         ⟨none, none, .store 2 (.t 29) (.t 27)⟩])
        (.seq
         (.reg [⟨some 30, none, .mov (.t 8)⟩,
          ⟨some 31, none, .bin .add (.t 30) (.c (.int .i64 1))⟩,
          ⟨some 8, none, .mov (.t 31)⟩])
         (.reg [⟨some 32, none, .mov (.t 9)⟩,
          ⟨some 33, none, .bin .sub (.t 32) (.c (.int .i64 1))⟩,
          ⟨some 9, none, .mov (.t 33)⟩])))))
/-- slices.reverseRangeCmpFunc[tracebook/api.Span] -/
def c79 : AFn := ⟨4, 34, [],
 (.seq
  (.reg [⟨some 10, none, .mov (.t 1)⟩,
   ⟨some 8, none, .mov (.t 10)⟩])
  (.seq
   (.reg [⟨some 11, none, .mov (.t 2)⟩,
    ⟨some 12, none, .bin .sub (.t 11) (.c (.int .i64 1))⟩,
    ⟨some 9, none, .mov (.t 12)⟩])
   (.block 0
    (.loop [0, 8, 9]
     c79b0)))), none⟩
def k79 : List (List Nat) := [[0, 8, 9]]
def o79 : List Nat := [1000023, 1000027, 1000029, 1000031, 1000032, 1000037, 1000041, 1000042, 1000044, 1000046, 1000047, 1000048, 1000049, 1000050, 1000051, 1000052, 1000053, 1000057, 1000058, 1000059, 1000060, 1000061, 1000062, 1000064, 1000065, 1000066, 1000067, 1000070, 1000071, 1000072, 1000073, 1000074, 1000075, 1000076, 1000077, 1000078, 1000079, 1000080, 1000081, 1000082, 1000083, 1000084, 1000085, 1000086, 1000087, 1000088, 3000000]
def c80b0 : AC := (.seq
                     (.seq
                      (.reg [⟨some 107, none, .mov (.t 12)⟩,
                       ⟨some 108, none, .mov (.t 2)⟩,
                       ⟨some 109, none, .bin .lss (.t 107) (.t 108)⟩])
                      (.cond (.t 109)
                       .skip
                       (.exit 6)))
                     (.seq
                      (.block 7
                       (.seq
                        (.seq
                         (.reg [⟨some 112, none, .mov (.t 3)⟩,
                          ⟨some 113, none, .mov (.t 0)⟩,
                          ⟨some 114, none, .mov (.t 12)⟩,
                          ⟨some 115, none, .iaddr (.slice 2) (.t 113) (.t 114)⟩,
                          ⟨some 116, none, .load 2 true (.t 115)⟩,
                          ⟨some 117, none, .mov (.t 0)⟩,
                          ⟨some 118, none, .mov (.t 12)⟩,
                          ⟨some 119, none, .bin .sub (.t 118) (.c (.int .i64 1))⟩,
                          ⟨some 120, none, .iaddr (.slice 2) (.t 117) (.t 119)⟩,
                          ⟨some 121, none, .load 2 true (.t 120)⟩,
                          ⟨some 122, none, .calld false (.t 112) [(.t 116), (.t 121)]⟩,
                          ⟨some 123, none, .bin .lss (.t 122) (.c (.int .i64 0))⟩,
                          ⟨some 124, none, .un .not (.t 123)⟩])
                         (.cond (.t 124)
                          (.exit 6)
                          .skip))
                        (.reg [⟨some 125, none, .mov (.t 0)⟩,
                         ⟨some 126, none, .mov (.t 12)⟩,
                         ⟨some 127, none, .mov (.t 0)⟩,
                         ⟨some 128, none, .mov (.t 12)⟩,
                         ⟨some 129, none, .bin .sub (.t 128) (.c (.int .i64 1))⟩,
                         ⟨some 130, none, .mov (.t 0)⟩,
                         ⟨some 131, none, .mov (.t 12)⟩,
                         ⟨some 132, none, .bin .sub (.t 131) (.c (.int .i64 1))⟩,
                         ⟨some 133, none, .iaddr (.slice 2) (.t 130) (.t 132)⟩,
                         ⟨some 134, none, .load 2 true (.t 133)⟩,
                         ⟨some 135, none, .mov (.t 0)⟩,
                         ⟨some 136, none, .mov (.t 12)⟩,
                         ⟨some 137, none, .iaddr (.slice 2) (.t 135) (.t 136)⟩,
                         ⟨some 138, none, .load 2 true (.t 137)⟩,
                         ⟨some 139, none, .iaddr (.slice 2) (.t 125) (.t 126)⟩,
                         ⟨none, none, .store 2 (.t 139) (.t 134)⟩,
                         ⟨some 140, none, .iaddr (.slice 2) (.t 127) (.t 129)⟩,
                         ⟨none, none, .store 2 (.t 140) (.t 138)⟩])))
                      (.reg [⟨some 110, none, .mov (.t 12)⟩,
                       ⟨some 111, none, .bin .add (.t 110) (.c (.int .i64 1))⟩,
                       ⟨some 12, none, .mov (.t 111)⟩])))
def c80b1 : AC := (.seq
                     (.seq
                      (.reg [⟨some 68, none, .mov (.t 11)⟩,
                       ⟨some 69, none, .bin .geq (.t 68) (.c (.int .i64 1))⟩])
                      (.cond (.t 69)
                       .skip
                       (.exit 4)))
                     (.seq
                      (.block 5
                       (.seq
                        (.seq
                         (.reg [⟨some 72, none, .mov (.t 3)⟩,
                          ⟨some 73, none, .mov (.t 0)⟩,
                          ⟨some 74, none, .mov (.t 11)⟩,
                          ⟨some 75, none, .iaddr (.slice 2) (.t 73) (.t 74)⟩,
                          ⟨some 76, none, .load 2 true (.t 75)⟩,
                          ⟨some 77, none, .mov (.t 0)⟩,
                          ⟨some 78, none, .mov (.t 11)⟩,
                          ⟨some 79, none, .bin .sub (.t 78) (.c (.int .i64 1))⟩,
                          ⟨some 80, none, .iaddr (.slice 2) (.t 77) (.t 79)⟩,
                          ⟨some 81, none, .load 2 true (.t 80)⟩,
                          ⟨some 82, none, .calld false (.t 72) [(.t 76), (.t 81)]⟩,
                          ⟨some 83, none, .bin .lss (.t 82) (.c (.int .i64 0))⟩,
                          ⟨some 84, none, .un .not (.t 83)⟩])
                         (.cond (.t 84)
                          (.exit 4)
                          .skip))
                        (.reg [⟨some 85, none, .mov (.t 0)⟩,
                         ⟨some 86, none, .mov (.t 11)⟩,
                         ⟨some 87, none, .mov (.t 0)⟩,
                         ⟨some 88, none, .mov (.t 11)⟩,
                         ⟨some 89, none, .bin .sub (.t 88) (.c (.int .i64 1))⟩,
                         ⟨some 90, none, .mov (.t 0)⟩,
                         ⟨some 91, none, .mov (.t 11)⟩,
                         ⟨some 92, none, .bin .sub (.t 91) (.c (.int .i64 1))⟩,
                         ⟨some 93, none, .iaddr (.slice 2) (.t 90) (.t 92)⟩,
                         ⟨some 94, none, .load 2 true (.t 93)⟩,
                         ⟨some 95, none, .mov (.t 0)⟩,
                         ⟨some 96, none, .mov (.t 11)⟩,
                         ⟨some 97, none, .iaddr (.slice 2) (.t 95) (.t 96)⟩,
                         ⟨some 98, none, .load 2 true (.t 97)⟩,
                         ⟨some 99, none, .iaddr (.slice 2) (.t 85) (.t 86)⟩,
                         ⟨none, none, .store 2 (.t 99) (.t 94)⟩,
                         ⟨some 100, none, .iaddr (.slice 2) (.t 87) (.t 89)⟩,
                         ⟨none, none, .store 2 (.t 100) (.t 98)⟩])))
                      (.reg [⟨some 70, none, .mov (.t 11)⟩,
                       ⟨some 71, none, .bin .sub (.t 70) (.c (.int .i64 1))⟩,
                       ⟨some 11, none, .mov (.t 71)⟩])))
def c80b2 : AC := (.seq
              (.seq
               (.reg [⟨some 19, none, .mov (.t 9)⟩,
                ⟨some 20, none, .mov (.t 2)⟩,
                ⟨some 21, none, .bin .lss (.t 19) (.t 20)⟩,
                ⟨some 22, none, .mov (.t 21)⟩,
                ⟨some 23, some (22, true), .mov (.t 3)⟩,
                ⟨some 24, some (22, true), .mov (.t 0)⟩,
                ⟨some 25, some (22, true), .mov (.t 9)⟩,
                ⟨some 26, some (22, true), .iaddr (.slice 2) (.t 24) (.t 25)⟩,
                ⟨some 27, some (22, true), .load 2 true (.t 26)⟩,
                ⟨some 28, some (22, true), .mov (.t 0)⟩,
                ⟨some 29, some (22, true), .mov (.t 9)⟩,
                ⟨some 30, some (22, true), .bin .sub (.t 29) (.c (.int .i64 1))⟩,
                ⟨some 31, some (22, true), .iaddr (.slice 2) (.t 28) (.t 30)⟩,
                ⟨some 32, some (22, true), .load 2 true (.t 31)⟩,
                ⟨some 33, some (22, true), .calld false (.t 23) [(.t 27), (.t 32)]⟩,
                ⟨some 34, some (22, true), .bin .lss (.t 33) (.c (.int .i64 0))⟩,
                ⟨some 35, some (22, true), .un .not (.t 34)⟩,
                ⟨some 36, none, .pick (.t 22) (.t 35) (.c (.bool false))⟩])
               (.cond (.t 36)
                .skip
                (.exit 2)))
              (.block 3
               (.reg [⟨some 37, none, .mov (.t 9)⟩,
                ⟨some 38, none, .bin .add (.t 37) (.c (.int .i64 1))⟩,
                ⟨some 9, none, .mov (.t 38)⟩])))
def c80r0 : AC := (.seq
                (.reg [⟨some 101, none, .mov (.t 2)⟩,
                 ⟨some 102, none, .mov (.t 9)⟩,
                 ⟨some 103, none, .bin .sub (.t 101) (.t 102)⟩,
                 ⟨some 104, none, .bin .geq (.t 103) (.c (.int .i64 2))⟩])
                (.cond (.t 104)
                 (.seq
                  (.reg [⟨some 105, none, .mov (.t 9)⟩,
                   ⟨some 106, none, .bin .add (.t 105) (.c (.int .i64 1))⟩,
                   ⟨some 12, none, .mov (.t 106)⟩])
                  (.block 6
                   (.loop [0, 1, 2, 3, 9, 10, 12]
                    c80b0)))
                 .skip))
def c80r1 : AC := (.seq
            (.seq
             (.reg [⟨some 39, none, .mov (.t 9)⟩,
              ⟨some 40, none, .mov (.t 2)⟩,
              ⟨some 41, none, .bin .eql (.t 39) (.t 40)⟩])
             (.cond (.t 41)
              (.seq
               (.reg [⟨some 8, none, .mov (.c (.bool true))⟩])
               .ret)
              .skip))
            (.seq
             (.seq
              (.reg [⟨some 42, none, .mov (.t 2)⟩,
               ⟨some 43, none, .mov (.t 1)⟩,
               ⟨some 44, none, .bin .sub (.t 42) (.t 43)⟩,
               ⟨some 45, none, .bin .lss (.t 44) (.c (.int .i64 50))⟩])
              (.cond (.t 45)
               (.seq
                (.reg [⟨some 8, none, .mov (.c (.bool false))⟩])
                .ret)
               .skip))
             (.seq
              (.reg [⟨some 46, none, .mov (.t 0)⟩,
               ⟨some 47, none, .mov (.t 9)⟩,
               ⟨some 48, none, .mov (.t 0)⟩,
               ⟨some 49, none, .mov (.t 9)⟩,
               ⟨some 50, none, .bin .sub (.t 49) (.c (.int .i64 1))⟩,
               ⟨some 51, none, .mov (.t 0)⟩,
               ⟨some 52, none, .mov (.t 9)⟩,
               ⟨some 53, none, .bin .sub (.t 52) (.c (.int .i64 1))⟩,
               ⟨some 54, none, .iaddr (.slice 2) (.t 51) (.t 53)⟩,
               ⟨some 55, none, .load 2 true (.t 54)⟩,
               ⟨some 56, none, .mov (.t 0)⟩,
               ⟨some 57, none, .mov (.t 9)⟩,
               ⟨some 58, none, .iaddr (.slice 2) (.t 56) (.t 57)⟩,
               ⟨some 59, none, .load 2 true (.t 58)⟩,
               ⟨some 60, none, .iaddr (.slice 2) (.t 46) (.t 47)⟩,
               ⟨none, none, .store 2 (.t 60) (.t 55)⟩,
               ⟨some 61, none, .iaddr (.slice 2) (.t 48) (.t 50)⟩,
               ⟨none, none, .store 2 (.t 61) (.t 59)⟩])
              (.seq
               (.seq
                (.reg [⟨some 62, none, .mov (.t 9)⟩,
                 ⟨some 63, none, .mov (.t 1)⟩,
                 ⟨some 64, none, .bin .sub (.t 62) (.t 63)⟩,
                 ⟨some 65, none, .bin .geq (.t 64) (.c (.int .i64 2))⟩])
                (.cond (.t 65)
                 (.seq
                  (.reg [⟨some 66, none, .mov (.t 9)⟩,
                   ⟨some 67, none, .bin .sub (.t 66) (.c (.int .i64 1))⟩,
                   ⟨some 11, none, .mov (.t 67)⟩])
                  (.block 4
                   (.loop [0, 1, 2, 3, 9, 10, 11]
                    c80b1)))
                 .skip))
               c80r0))))
def c80b3 : AC := (.seq
        (.seq
         (.reg [⟨some 15, none, .mov (.t 10)⟩,
          ⟨some 16, none, .bin .lss (.t 15) (.c (.int .i64 5))⟩])
         (.cond (.t 16)
          .skip
          (.exit 0)))
        (.seq
         (.block 1
          (.seq
           (.block 2
            (.loop [0, 1, 2, 3, 9, 10]
             c80b2))
           c80r1))
         (.reg [⟨some 17, none, .mov (.t 10)⟩,
          ⟨some 18, none, .bin .add (.t 17) (.c (.int .i64 1))⟩,
          ⟨some 10, none, .mov (.t 18)⟩])))
/-- slices.partialInsertionSortCmpFunc[tracebook/api.Span] -/
def c80 : AFn := ⟨4, 141, [.t 8],
 (.seq
  (.reg [⟨some 8, none, .mov (.c (.bool false))⟩])
  (.seq
   (.reg [⟨some 13, none, .mov (.t 1)⟩,
    ⟨some 14, none, .bin .add (.t 13) (.c (.int .i64 1))⟩,
    ⟨some 9, none, .mov (.t 14)⟩])
   (.seq
    (.seq
     (.reg [⟨some 10, none, .mov (.c (.int .i64 0))⟩])
     (.block 0
      (.loop [0, 1, 2, 3, 9, 10]
       c80b3)))
    (.seq
     (.reg [⟨some 8, none, .mov (.c (.bool false))⟩])
     .ret)))), none⟩
def k80 : List (List Nat) := [[0, 1, 2, 3, 9, 10], [0, 1, 2, 3, 9, 10], [0, 1, 2, 3, 9, 10, 11], [0, 1, 2, 3, 9, 10, 12]]
def o80 : List Nat := [1000023, 1000027, 1000029, 1000031, 1000032, 1000037, 1000041, 1000042, 1000044, 1000046, 1000047, 1000048, 1000049, 1000050, 1000051, 1000052, 1000053, 1000057, 1000058, 1000059, 1000060, 1000061, 1000062, 1000064, 1000065, 1000066, 1000067, 1000070, 1000071, 1000072, 1000073, 1000074, 1000075, 1000076, 1000077, 1000078, 1000079, 1000080, 1000081, 1000082, 1000083, 1000084, 1000085, 1000086, 1000087, 1000088, 3000000]
def c81b0 : AC := (.seq
             (.seq
              (.reg [⟨some 50, none, .mov (.t 11)⟩,
               ⟨some 51, none, .mov (.t 12)⟩,
               ⟨some 52, none, .bin .leq (.t 50) (.t 51)⟩,
               ⟨some 53, none, .mov (.t 52)⟩,
               ⟨some 54, some (53, true), .mov (.t 4)⟩,
               ⟨some 55, some (53, true), .mov (.t 0)⟩,
               ⟨some 56, some (53, true), .mov (.t 1)⟩,
               ⟨some 57, some (53, true), .iaddr (.slice 2) (.t 55) (.t 56)⟩,
               ⟨some 58, some (53, true), .load 2 true (.t 57)⟩,
               ⟨some 59, some (53, true), .mov (.t 0)⟩,
               ⟨some 60, some (53, true), .mov (.t 12)⟩,
               ⟨some 61, some (53, true), .iaddr (.slice 2) (.t 59) (.t 60)⟩,
               ⟨some 62, some (53, true), .load 2 true (.t 61)⟩,
               ⟨some 63, some (53, true), .calld false (.t 54) [(.t 58), (.t 62)]⟩,
               ⟨some 64, some (53, true), .bin .lss (.t 63) (.c (.int .i64 0))⟩,
               ⟨some 65, none, .pick (.t 53) (.t 64) (.c (.bool false))⟩])
              (.cond (.t 65)
               .skip
               (.exit 4)))
             (.block 5
              (.reg [⟨some 66, none, .mov (.t 12)⟩,
               ⟨some 67, none, .bin .sub (.t 66) (.c (.int .i64 1))⟩,
               ⟨some 12, none, .mov (.t 67)⟩])))
def c81b1 : AC := (.seq
            (.seq
             (.reg [⟨some 31, none, .mov (.t 11)⟩,
              ⟨some 32, none, .mov (.t 12)⟩,
              ⟨some 33, none, .bin .leq (.t 31) (.t 32)⟩,
              ⟨some 34, none, .mov (.t 33)⟩,
              ⟨some 35, some (34, true), .mov (.t 4)⟩,
              ⟨some 36, some (34, true), .mov (.t 0)⟩,
              ⟨some 37, some (34, true), .mov (.t 1)⟩,
              ⟨some 38, some (34, true), .iaddr (.slice 2) (.t 36) (.t 37)⟩,
              ⟨some 39, some (34, true), .load 2 true (.t 38)⟩,
              ⟨some 40, some (34, true), .mov (.t 0)⟩,
              ⟨some 41, some (34, true), .mov (.t 11)⟩,
              ⟨some 42, some (34, true), .iaddr (.slice 2) (.t 40) (.t 41)⟩,
              ⟨some 43, some (34, true), .load 2 true (.t 42)⟩,
              ⟨some 44, some (34, true), .calld false (.t 35) [(.t 39), (.t 43)]⟩,
              ⟨some 45, some (34, true), .bin .lss (.t 44) (.c (.int .i64 0))⟩,
              ⟨some 46, some (34, true), .un .not (.t 45)⟩,
              ⟨some 47, none, .pick (.t 34) (.t 46) (.c (.bool false))⟩])
             (.cond (.t 47)
              .skip
              (.exit 2)))
            (.block 3
             (.reg [⟨some 48, none, .mov (.t 11)⟩,
              ⟨some 49, none, .bin .add (.t 48) (.c (.int .i64 1))⟩,
              ⟨some 11, none, .mov (.t 49)⟩])))
def c81r0 : AC := (.seq
          (.block 4
           (.loop [0, 1, 4, 11, 12]
            c81b0))
          (.seq
           (.seq
            (.reg [⟨some 68, none, .mov (.t 11)⟩,
             ⟨some 69, none, .mov (.t 12)⟩,
             ⟨some 70, none, .bin .gtr (.t 68) (.t 69)⟩])
            (.cond (.t 70)
             (.exit 0)
             .skip))
           (.seq
            (.reg [⟨some 71, none, .mov (.t 0)⟩,
             ⟨some 72, none, .mov (.t 11)⟩,
             ⟨some 73, none, .mov (.t 0)⟩,
             ⟨some 74, none, .mov (.t 12)⟩,
             ⟨some 75, none, .mov (.t 0)⟩,
             ⟨some 76, none, .mov (.t 12)⟩,
             ⟨some 77, none, .iaddr (.slice 2) (.t 75) (.t 76)⟩,
             ⟨some 78, none, .load 2 true (.t 77)⟩,
             ⟨some 79, none, .mov (.t 0)⟩,
             ⟨some 80, none, .mov (.t 11)⟩,
             ⟨some 81, none, .iaddr (.slice 2) (.t 79) (.t 80)⟩,
             ⟨some 82, none, .load 2 true (.t 81)⟩,
             ⟨some 83, none, .iaddr (.slice 2) (.t 71) (.t 72)⟩,
             ⟨none, none, .store 2 (.t 83) (.t 78)⟩,
             ⟨some 84, none, .iaddr (.slice 2) (.t 73) (.t 74)⟩,
             ⟨none, none, .store 2 (.t 84) (.t 82)⟩])
            (.seq
             (.reg [⟨some 85, none, .mov (.t 11)⟩,
              ⟨some 86, none, .bin .add (.t 85) (.c (.int .i64 1))⟩,
              ⟨some 11, none, .mov (.t 86)⟩])
             (.reg [⟨some 87, none, .mov (.t 12)⟩,
              ⟨some 88, none, .bin .sub (.t 87) (.c (.int .i64 1))⟩,
              ⟨some 12, none, .mov (.t 88)⟩])))))
def c81b2 : AC := (.block 1
        (.seq
         (.block 2
          (.loop [0, 1, 4, 11, 12]
           c81b1))
         c81r0))
/-- slices.partitionEqualCmpFunc[tracebook/api.Span] -/
def c81 : AFn := ⟨5, 90, [.t 10],
 (.seq
  (.reg [⟨some 10, none, .mov (.c (.int .i64 0))⟩])
  (.seq
   (.reg [⟨some 13, none, .mov (.t 0)⟩,
    ⟨some 14, none, .mov (.t 1)⟩,
    ⟨some 15, none, .mov (.t 0)⟩,
    ⟨some 16, none, .mov (.t 3)⟩,
    ⟨some 17, none, .mov (.t 0)⟩,
    ⟨some 18, none, .mov (.t 3)⟩,
    ⟨some 19, none, .iaddr (.slice 2) (.t 17) (.t 18)⟩,
    ⟨some 20, none, .load 2 true (.t 19)⟩,
    ⟨some 21, none, .mov (.t 0)⟩,
    ⟨some 22, none, .mov (.t 1)⟩,
    ⟨some 23, none, .iaddr (.slice 2) (.t 21) (.t 22)⟩,
    ⟨some 24, none, .load 2 true (.t 23)⟩,
    ⟨some 25, none, .iaddr (.slice 2) (.t 13) (.t 14)⟩,
    ⟨none, none, .store 2 (.t 25) (.t 20)⟩,
    ⟨some 26, none, .iaddr (.slice 2) (.t 15) (.t 16)⟩,
    ⟨none, none, .store 2 (.t 26) (.t 24)⟩])
   (.seq
    (.reg [⟨some 27, none, .mov (.t 1)⟩,
     ⟨some 28, none, .bin .add (.t 27) (.c (.int .i64 1))⟩,
     ⟨some 29, none, .mov (.t 2)⟩,
     ⟨some 30, none, .bin .sub (.t 29) (.c (.int .i64 1))⟩,
     ⟨some 11, none, .mov (.t 28)⟩,
     ⟨some 12, none, .mov (.t 30)⟩])
    (.seq
     (.block 0
      (.loop [0, 1, 4, 11, 12]
       c81b2))
     (.seq
      (.reg [⟨some 89, none, .mov (.t 11)⟩,
       ⟨some 10, none, .mov (.t 89)⟩])
      .ret))))), none⟩
def k81 : List (List Nat) := [[0, 1, 4, 11, 12], [0, 1, 4, 11, 12], [0, 1, 4, 11, 12]]
def o81 : List Nat := [1000023, 1000027, 1000029, 1000031, 1000032, 1000037, 1000041, 1000042, 1000044, 1000046, 1000047, 1000048, 1000049, 1000050, 1000051, 1000052, 1000053, 1000057, 1000058, 1000059, 1000060, 1000061, 1000062, 1000064, 1000065, 1000066, 1000067, 1000070, 1000071, 1000072, 1000073, 1000074, 1000075, 1000076, 1000077, 1000078, 1000079, 1000080, 1000081, 1000082, 1000083, 1000084, 1000085, 1000086, 1000087, 1000088, 3000000]
def c82b0 : AC := (.seq
                   (.seq
                    (.reg [⟨some 123, none, .mov (.t 12)⟩,
                     ⟨some 124, none, .mov (.t 13)⟩,
                     ⟨some 125, none, .bin .leq (.t 123) (.t 124)⟩,
                     ⟨some 126, none, .mov (.t 125)⟩,
                     ⟨some 127, some (126, true), .mov (.t 4)⟩,
                     ⟨some 128, some (126, true), .mov (.t 0)⟩,
                     ⟨some 129, some (126, true), .mov (.t 13)⟩,
                     ⟨some 130, some (126, true), .iaddr (.slice 2) (.t 128) (.t 129)⟩,
                     ⟨some 131, some (126, true), .load 2 true (.t 130)⟩,
                     ⟨some 132, some (126, true), .mov (.t 0)⟩,
                     ⟨some 133, some (126, true), .mov (.t 1)⟩,
                     ⟨some 134, some (126, true), .iaddr (.slice 2) (.t 132) (.t 133)⟩,
                     ⟨some 135, some (126, true), .load 2 true (.t 134)⟩,
                     ⟨some 136, some (126, true), .calld false (.t 127) [(.t 131), (.t 135)]⟩,
                     ⟨some 137, some (126, true), .bin .lss (.t 136) (.c (.int .i64 0))⟩,
                     ⟨some 138, some (126, true), .un .not (.t 137)⟩,
                     ⟨some 139, none, .pick (.t 126) (.t 138) (.c (.bool false))⟩])
                    (.cond (.t 139)
                     .skip
                     (.exit 8)))
                   (.block 9
                    (.reg [⟨some 140, none, .mov (.t 13)⟩,
                     ⟨some 141, none, .bin .sub (.t 140) (.c (.int .i64 1))⟩,
                     ⟨some 13, none, .mov (.t 141)⟩])))
def c82b1 : AC := (.seq
                  (.seq
                   (.reg [⟨some 105, none, .mov (.t 12)⟩,
                    ⟨some 106, none, .mov (.t 13)⟩,
                    ⟨some 107, none, .bin .leq (.t 105) (.t 106)⟩,
                    ⟨some 108, none, .mov (.t 107)⟩,
                    ⟨some 109, some (108, true), .mov (.t 4)⟩,
                    ⟨some 110, some (108, true), .mov (.t 0)⟩,
                    ⟨some 111, some (108, true), .mov (.t 12)⟩,
                    ⟨some 112, some (108, true), .iaddr (.slice 2) (.t 110) (.t 111)⟩,
                    ⟨some 113, some (108, true), .load 2 true (.t 112)⟩,
                    ⟨some 114, some (108, true), .mov (.t 0)⟩,
                    ⟨some 115, some (108, true), .mov (.t 1)⟩,
                    ⟨some 116, some (108, true), .iaddr (.slice 2) (.t 114) (.t 115)⟩,
                    ⟨some 117, some (108, true), .load 2 true (.t 116)⟩,
                    ⟨some 118, some (108, true), .calld false (.t 109) [(.t 113), (.t 117)]⟩,
                    ⟨some 119, some (108, true), .bin .lss (.t 118) (.c (.int .i64 0))⟩,
                    ⟨some 120, none, .pick (.t 108) (.t 119) (.c (.bool false))⟩])
                   (.cond (.t 120)
                    .skip
                    (.exit 6)))
                  (.block 7
                   (.reg [⟨some 121, none, .mov (.t 12)⟩,
                    ⟨some 122, none, .bin .add (.t 121) (.c (.int .i64 1))⟩,
                    ⟨some 12, none, .mov (.t 122)⟩])))
def c82r0 : AC := (.seq
                (.block 8
                 (.loop [0, 1, 4, 12, 13]
                  c82b0))
                (.seq
                 (.seq
                  (.reg [⟨some 142, none, .mov (.t 12)⟩,
                   ⟨some 143, none, .mov (.t 13)⟩,
                   ⟨some 144, none, .bin .gtr (.t 142) (.t 143)⟩])
                  (.cond (.t 144)
                   (.exit 4)
                   .skip))
                 (.seq
                  (.reg [⟨some 145, none, .mov (.t 0)⟩,
                   ⟨some 146, none, .mov (.t 12)⟩,
                   ⟨some 147, none, .mov (.t 0)⟩,
                   ⟨some 148, none, .mov (.t 13)⟩,
                   ⟨some 149, none, .mov (.t 0)⟩,
                   ⟨some 150, none, .mov (.t 13)⟩,
                   ⟨some 151, none, .iaddr (.slice 2) (.t 149) (.t 150)⟩,
                   ⟨some 152, none, .load 2 true (.t 151)⟩,
                   ⟨some 153, none, .mov (.t 0)⟩,
                   ⟨some 154, none, .mov (.t 12)⟩,
                   ⟨some 155, none, .iaddr (.slice 2) (.t 153) (.t 154)⟩,
                   ⟨some 156, none, .load 2 true (.t 155)⟩,
                   ⟨some 157, none, .iaddr (.slice 2) (.t 145) (.t 146)⟩,
                   ⟨none, none, .store 2 (.t 157) (.t 152)⟩,
                   ⟨some 158, none, .iaddr (.slice 2) (.t 147) (.t 148)⟩,
                   ⟨none, none, .store 2 (.t 158) (.t 156)⟩])
                  (.seq
                   (.reg [⟨some 159, none, .mov (.t 12)⟩,
                    ⟨some 160, none, .bin .add (.t 159) (.c (.int .i64 1))⟩,
                    ⟨some 12, none, .mov (.t 160)⟩])
                   (.reg [⟨some 161, none, .mov (.t 13)⟩,
                    ⟨some 162, none, .bin .sub (.t 161) (.c (.int .i64 1))⟩,
                    ⟨some 13, none, .mov (.t 162)⟩])))))
def c82b2 : AC := (.block 5
              (.seq
               (.block 6
                (.loop [0, 1, 4, 12, 13]
                 c82b1))
               c82r0))
def c82b3 : AC := (.seq
         (.seq
          (.reg [⟨some 50, none, .mov (.t 12)⟩,
           ⟨some 51, none, .mov (.t 13)⟩,
           ⟨some 52, none, .bin .leq (.t 50) (.t 51)⟩,
           ⟨some 53, none, .mov (.t 52)⟩,
           ⟨some 54, some (53, true), .mov (.t 4)⟩,
           ⟨some 55, some (53, true), .mov (.t 0)⟩,
           ⟨some 56, some (53, true), .mov (.t 13)⟩,
           ⟨some 57, some (53, true), .iaddr (.slice 2) (.t 55) (.t 56)⟩,
           ⟨some 58, some (53, true), .load 2 true (.t 57)⟩,
           ⟨some 59, some (53, true), .mov (.t 0)⟩,
           ⟨some 60, some (53, true), .mov (.t 1)⟩,
           ⟨some 61, some (53, true), .iaddr (.slice 2) (.t 59) (.t 60)⟩,
           ⟨some 62, some (53, true), .load 2 true (.t 61)⟩,
           ⟨some 63, some (53, true), .calld false (.t 54) [(.t 58), (.t 62)]⟩,
           ⟨some 64, some (53, true), .bin .lss (.t 63) (.c (.int .i64 0))⟩,
           ⟨some 65, some (53, true), .un .not (.t 64)⟩,
           ⟨some 66, none, .pick (.t 53) (.t 65) (.c (.bool false))⟩])
          (.cond (.t 66)
           .skip
           (.exit 2)))
         (.block 3
          (.reg [⟨some 67, none, .mov (.t 13)⟩,
           ⟨some 68, none, .bin .sub (.t 67) (.c (.int .i64 1))⟩,
           ⟨some 13, none, .mov (.t 68)⟩])))
def c82b4 : AC := (.seq
        (.seq
         (.reg [⟨some 32, none, .mov (.t 12)⟩,
          ⟨some 33, none, .mov (.t 13)⟩,
          ⟨some 34, none, .bin .leq (.t 32) (.t 33)⟩,
          ⟨some 35, none, .mov (.t 34)⟩,
          ⟨some 36, some (35, true), .mov (.t 4)⟩,
          ⟨some 37, some (35, true), .mov (.t 0)⟩,
          ⟨some 38, some (35, true), .mov (.t 12)⟩,
          ⟨some 39, some (35, true), .iaddr (.slice 2) (.t 37) (.t 38)⟩,
          ⟨some 40, some (35, true), .load 2 true (.t 39)⟩,
          ⟨some 41, some (35, true), .mov (.t 0)⟩,
          ⟨some 42, some (35, true), .mov (.t 1)⟩,
          ⟨some 43, some (35, true), .iaddr (.slice 2) (.t 41) (.t 42)⟩,
          ⟨some 44, some (35, true), .load 2 true (.t 43)⟩,
          ⟨some 45, some (35, true), .calld false (.t 36) [(.t 40), (.t 44)]⟩,
          ⟨some 46, some (35, true), .bin .lss (.t 45) (.c (.int .i64 0))⟩,
          ⟨some 47, none, .pick (.t 35) (.t 46) (.c (.bool false))⟩])
         (.cond (.t 47)
          .skip
          (.exit 0)))
        (.block 1
         (.reg [⟨some 48, none, .mov (.t 12)⟩,
          ⟨some 49, none, .bin .add (.t 48) (.c (.int .i64 1))⟩,
          ⟨some 12, none, .mov (.t 49)⟩])))
def c82r1 : AC := (.seq
       (.seq
        (.reg [⟨some 69, none, .mov (.t 12)⟩,
         ⟨some 70, none, .mov (.t 13)⟩,
         ⟨some 71, none, .bin .gtr (.t 69) (.t 70)⟩])
        (.cond (.t 71)
         (.seq
          (.reg [⟨some 72, none, .mov (.t 0)⟩,
           ⟨some 73, none, .mov (.t 13)⟩,
           ⟨some 74, none, .mov (.t 0)⟩,
           ⟨some 75, none, .mov (.t 1)⟩,
           ⟨some 76, none, .mov (.t 0)⟩,
           ⟨some 77, none, .mov (.t 1)⟩,
           ⟨some 78, none, .iaddr (.slice 2) (.t 76) (.t 77)⟩,
           ⟨some 79, none, .load 2 true (.t 78)⟩,
           ⟨some 80, none, .mov (.t 0)⟩,
           ⟨some 81, none, .mov (.t 13)⟩,
           ⟨some 82, none, .iaddr (.slice 2) (.t 80) (.t 81)⟩,
           ⟨some 83, none, .load 2 true (.t 82)⟩,
           ⟨some 84, none, .iaddr (.slice 2) (.t 72) (.t 73)⟩,
           ⟨none, none, .store 2 (.t 84) (.t 79)⟩,
           ⟨some 85, none, .iaddr (.slice 2) (.t 74) (.t 75)⟩,
           ⟨none, none, .store 2 (.t 85) (.t 83)⟩])
          (.seq
           (.reg [⟨some 86, none, .mov (.t 13)⟩,
            ⟨some 10, none, .mov (.t 86)⟩,
            ⟨some 11, none, .mov (.c (.bool true))⟩])
           .ret))
         .skip))
       (.seq
        (.reg [⟨some 87, none, .mov (.t 0)⟩,
         ⟨some 88, none, .mov (.t 12)⟩,
         ⟨some 89, none, .mov (.t 0)⟩,
         ⟨some 90, none, .mov (.t 13)⟩,
         ⟨some 91, none, .mov (.t 0)⟩,
         ⟨some 92, none, .mov (.t 13)⟩,
         ⟨some 93, none, .iaddr (.slice 2) (.t 91) (.t 92)⟩,
         ⟨some 94, none, .load 2 true (.t 93)⟩,
         ⟨some 95, none, .mov (.t 0)⟩,
         ⟨some 96, none, .mov (.t 12)⟩,
         ⟨some 97, none, .iaddr (.slice 2) (.t 95) (.t 96)⟩,
         ⟨some 98, none, .load 2 true (.t 97)⟩,
         ⟨some 99, none, .iaddr (.slice 2) (.t 87) (.t 88)⟩,
         ⟨none, none, .store 2 (.t 99) (.t 94)⟩,
         ⟨some 100, none, .iaddr (.slice 2) (.t 89) (.t 90)⟩,
         ⟨none, none, .store 2 (.t 100) (.t 98)⟩])
        (.seq
         (.reg [⟨some 101, none, .mov (.t 12)⟩,
          ⟨some 102, none, .bin .add (.t 101) (.c (.int .i64 1))⟩,
          ⟨some 12, none, .mov (.t 102)⟩])
         (.seq
          (.reg [⟨some 103, none, .mov (.t 13)⟩,
           ⟨some 104, none, .bin .sub (.t 103) (.c (.int .i64 1))⟩,
           ⟨some 13, none, .mov (.t 104)⟩])
          (.seq
           (.block 4
            (.loop [0, 1, 4, 12, 13]
             c82b2))
           (.seq
            (.reg [⟨some 163, none, .mov (.t 0)⟩,
             ⟨some 164, none, .mov (.t 13)⟩,
             ⟨some 165, none, .mov (.t 0)⟩,
             ⟨some 166, none, .mov (.t 1)⟩,
             ⟨some 167, none, .mov (.t 0)⟩,
             ⟨some 168, none, .mov (.t 1)⟩,
             ⟨some 169, none, .iaddr (.slice 2) (.t 167) (.t 168)⟩,
             ⟨some 170, none, .load 2 true (.t 169)⟩,
             ⟨some 171, none, .mov (.t 0)⟩,
             ⟨some 172, none, .mov (.t 13)⟩,
             ⟨some 173, none, .iaddr (.slice 2) (.t 171) (.t 172)⟩,
             ⟨some 174, none, .load 2 true (.t 173)⟩,
             ⟨some 175, none, .iaddr (.slice 2) (.t 163) (.t 164)⟩,
             ⟨none, none, .store 2 (.t 175) (.t 170)⟩,
             ⟨some 176, none, .iaddr (.slice 2) (.t 165) (.t 166)⟩,
             ⟨none, none, .store 2 (.t 176) (.t 174)⟩])
            (.seq
             (.reg [⟨some 177, none, .mov (.t 13)⟩,
              ⟨some 10, none, .mov (.t 177)⟩,
              ⟨some 11, none, .mov (.c (.bool false))⟩])
             .ret)))))))
def c82r2 : AC := (.seq
      (.block 2
       (.loop [0, 1, 4, 12, 13]
        c82b3))
      c82r1)
/-- slices.partitionCmpFunc[tracebook/api.Span] -/
def c82 : AFn := ⟨5, 178, [.t 10, .t 11],
 (.seq
  (.reg [⟨some 10, none, .mov (.c (.int .i64 0))⟩,
   ⟨some 11, none, .mov (.c (.bool false))⟩])
  (.seq
   (.reg [⟨some 14, none, .mov (.t 0)⟩,
    ⟨some 15, none, .mov (.t 1)⟩,
    ⟨some 16, none, .mov (.t 0)⟩,
    ⟨some 17, none, .mov (.t 3)⟩,
    ⟨some 18, none, .mov (.t 0)⟩,
    ⟨some 19, none, .mov (.t 3)⟩,
    ⟨some 20, none, .iaddr (.slice 2) (.t 18) (.t 19)⟩,
    ⟨some 21, none, .load 2 true (.t 20)⟩,
    ⟨some 22, none, .mov (.t 0)⟩,
    ⟨some 23, none, .mov (.t 1)⟩,
    ⟨some 24, none, .iaddr (.slice 2) (.t 22) (.t 23)⟩,
    ⟨some 25, none, .load 2 true (.t 24)⟩,
    ⟨some 26, none, .iaddr (.slice 2) (.t 14) (.t 15)⟩,
    ⟨none, none, .store 2 (.t 26) (.t 21)⟩,
    ⟨some 27, none, .iaddr (.slice 2) (.t 16) (.t 17)⟩,
    ⟨none, none, .store 2 (.t 27) (.t 25)⟩])
   (.seq
    (.reg [⟨some 28, none, .mov (.t 1)⟩,
     ⟨some 29, none, .bin .add (.t 28) (.c (.int .i64 1))⟩,
     ⟨some 30, none, .mov (.t 2)⟩,
     ⟨some 31, none, .bin .sub (.t 30) (.c (.int .i64 1))⟩,
     ⟨some 12, none, .mov (.t 29)⟩,
     ⟨some 13, none, .mov (.t 31)⟩])
    (.seq
     (.block 0
      (.loop [0, 1, 4, 12, 13]
       c82b4))
     c82r2)))), none⟩
def k82 : List (List Nat) := [[0, 1, 4, 12, 13], [0, 1, 4, 12, 13], [0, 1, 4, 12, 13], [0, 1, 4, 12, 13], [0, 1, 4, 12, 13]]
def o82 : List Nat := [1000023, 1000027, 1000029, 1000031, 1000032, 1000037, 1000041, 1000042, 1000044, 1000046, 1000047, 1000048, 1000049, 1000050, 1000051, 1000052, 1000053, 1000057, 1000058, 1000059, 1000060, 1000061, 1000062, 1000064, 1000065, 1000066, 1000067, 1000070, 1000071, 1000072, 1000073, 1000074, 1000075, 1000076, 1000077, 1000078, 1000079, 1000080, 1000081, 1000082, 1000083, 1000084, 1000085, 1000086, 1000087, 1000088, 3000000]
/-- slices.order2CmpFunc[int] -/
def c83 : AFn := ⟨5, 32, [.t 10, .t 11],
 (.seq
  (.reg [⟨some 10, none, .mov (.c (.int .i64 0))⟩,
   ⟨some 11, none, .mov (.c (.int .i64 0))⟩])
  (.seq
   (.seq
    (.reg [⟨some 12, none, .mov (.t 4)⟩,
     ⟨some 13, none, .mov (.t 0)⟩,
     ⟨some 14, none, .mov (.t 2)⟩,
     ⟨some 15, none, .iaddr (.slice 1) (.t 13) (.t 14)⟩,
     ⟨some 16, none, .load 1 false (.t 15)⟩,
     ⟨some 17, none, .mov (.t 0)⟩,
     ⟨some 18, none, .mov (.t 1)⟩,
     ⟨some 19, none, .iaddr (.slice 1) (.t 17) (.t 18)⟩,
     ⟨some 20, none, .load 1 false (.t 19)⟩,
     ⟨some 21, none, .calld false (.t 12) [(.t 16), (.t 20)]⟩,
     ⟨some 22, none, .bin .lss (.t 21) (.c (.int .i64 0))⟩])
    (.cond (.t 22)
     (.seq
      (.reg [⟨some 23, none, .mov (.t 3)⟩,
       ⟨some 24, none, .nilck (.t 23)⟩,
       ⟨some 25, none, .load 1 false (.t 24)⟩,
       ⟨some 26, none, .bin .add (.t 25) (.c (.int .i64 1))⟩,
       ⟨some 27, none, .nilck (.t 23)⟩,
       ⟨none, none, .store 1 (.t 27) (.t 26)⟩])
      (.seq
       (.reg [⟨some 28, none, .mov (.t 2)⟩,
        ⟨some 29, none, .mov (.t 1)⟩,
        ⟨some 10, none, .mov (.t 28)⟩,
        ⟨some 11, none, .mov (.t 29)⟩])
       .ret))
     .skip))
   (.seq
    (.reg [⟨some 30, none, .mov (.t 1)⟩,
     ⟨some 31, none, .mov (.t 2)⟩,
     ⟨some 10, none, .mov (.t 30)⟩,
     ⟨some 11, none, .mov (.t 31)⟩])
    .ret))), none⟩
def k83 : List (List Nat) := []
def o83 : List Nat := [1000023, 1000027, 1000029, 1000031, 1000032, 1000037, 1000041, 1000042, 1000044, 1000046, 1000047, 1000048, 1000049, 1000050, 1000051, 1000052, 1000053, 1000057, 1000058, 1000059, 1000060, 1000061, 1000062, 1000064, 1000065, 1000066, 1000067, 1000070, 1000071, 1000072, 1000073, 1000074, 1000075, 1000076, 1000077, 1000078, 1000079, 1000080, 1000081, 1000082, 1000083, 1000084, 1000085, 1000086, 1000087, 1000088, 3000000]
/-- slices.order2Ordered[int] -/
def c84 : AFn := ⟨4, 28, [.t 8, .t 9],
 (.seq
  (.reg [⟨some 8, none, .mov (.c (.int .i64 0))⟩,
   ⟨some 9, none, .mov (.c (.int .i64 0))⟩])
  (.seq
   (.seq
    (.reg [⟨some 10, none, .mov (.t 0)⟩,
     ⟨some 11, none, .mov (.t 2)⟩,
     ⟨some 12, none, .iaddr (.slice 1) (.t 10) (.t 11)⟩,
     ⟨some 13, none, .load 1 false (.t 12)⟩,
     ⟨some 14, none, .mov (.t 0)⟩,
     ⟨some 15, none, .mov (.t 1)⟩,
     ⟨some 16, none, .iaddr (.slice 1) (.t 14) (.t 15)⟩,
     ⟨some 17, none, .load 1 false (.t 16)⟩,
     ⟨some 18, none, .call false 63 [(.t 13), (.t 17)]⟩])
    (.cond (.t 18)
     (.seq
      (.reg [⟨some 19, none, .mov (.t 3)⟩,
       ⟨some 20, none, .nilck (.t 19)⟩,
       ⟨some 21, none, .load 1 false (.t 20)⟩,
       ⟨some 22, none, .bin .add (.t 21) (.c (.int .i64 1))⟩,
       ⟨some 23, none, .nilck (.t 19)⟩,
       ⟨none, none, .store 1 (.t 23) (.t 22)⟩])
      (.seq
       (.reg [⟨some 24, none, .mov (.t 2)⟩,
        ⟨some 25, none, .mov (.t 1)⟩,
        ⟨some 8, none, .mov (.t 24)⟩,
        ⟨some 9, none, .mov (.t 25)⟩])
       .ret))
     .skip))
   (.seq
    (.reg [⟨some 26, none, .mov (.t 1)⟩,
     ⟨some 27, none, .mov (.t 2)⟩,
     ⟨some 8, none, .mov (.t 26)⟩,
     ⟨some 9, none, .mov (.t 27)⟩])
    .ret))), none⟩
def k84 : List (List Nat) := []
def o84 : List Nat := [1000023, 1000027, 1000029, 1000031, 1000032, 1000037, 1000041, 1000042, 1000044, 1000046, 1000047, 1000048, 1000049, 1000050, 1000051, 1000052, 1000053, 1000057, 1000058, 1000059, 1000060, 1000061, 1000062, 1000064, 1000065, 1000066, 1000067, 1000070, 1000071, 1000072, 1000073, 1000074, 1000075, 1000076, 1000077, 1000078, 1000079, 1000080, 1000081, 1000082, 1000083, 1000084, 1000085, 1000086, 1000087, 1000088, 3000000]
def c85b0 : AC := (.block 1
     (.seq
      (.reg [⟨some 13, none, .mov (.t 10)⟩,
       ⟨some 14, none, .bin .mul (.c (.int .i64 2)) (.t 13)⟩,
       ⟨some 15, none, .bin .add (.t 14) (.c (.int .i64 1))⟩,
       ⟨some 11, none, .mov (.t 15)⟩])
      (.seq
       (.seq
        (.reg [⟨some 16, none, .mov (.t 11)⟩,
         ⟨some 17, none, .mov (.t 2)⟩,
         ⟨some 18, none, .bin .geq (.t 16) (.t 17)⟩])
        (.cond (.t 18)
         (.exit 0)
         .skip))
       (.seq
        (.seq
         (.reg [⟨some 19, none, .mov (.t 11)⟩,
          ⟨some 20, none, .bin .add (.t 19) (.c (.int .i64 1))⟩,
          ⟨some 21, none, .mov (.t 2)⟩,
          ⟨some 22, none, .bin .lss (.t 20) (.t 21)⟩,
          ⟨some 23, none, .mov (.t 22)⟩,
          ⟨some 24, some (23, true), .mov (.t 4)⟩,
          ⟨some 25, some (23, true), .mov (.t 0)⟩,
          ⟨some 26, some (23, true), .mov (.t 3)⟩,
          ⟨some 27, some (23, true), .mov (.t 11)⟩,
          ⟨some 28, some (23, true), .bin .add (.t 26) (.t 27)⟩,
          ⟨some 29, some (23, true), .iaddr (.slice 2) (.t 25) (.t 28)⟩,
          ⟨some 30, some (23, true), .load 2 true (.t 29)⟩,
          ⟨some 31, some (23, true), .mov (.t 0)⟩,
          ⟨some 32, some (23, true), .mov (.t 3)⟩,
          ⟨some 33, some (23, true), .mov (.t 11)⟩,
          ⟨some 34, some (23, true), .bin .add (.t 32) (.t 33)⟩,
          ⟨some 35, some (23, true), .bin .add (.t 34) (.c (.int .i64 1))⟩,
          ⟨some 36, some (23, true), .iaddr (.slice 2) (.t 31) (.t 35)⟩,
          ⟨some 37, some (23, true), .load 2 true (.t 36)⟩,
          ⟨some 38, some (23, true), .calld false (.t 24) [(.t 30), (.t 37)]⟩,
          ⟨some 39, some (23, true), .bin .lss (.t 38) (.c (.int .i64 0))⟩,
          ⟨some 40, none, .pick (.t 23) (.t 39) (.c (.bool false))⟩])
         (.cond (.t 40)
          (.reg [⟨some 41, none, .mov (.t 11)⟩,
           ⟨some 42, none, .bin .add (.t 41) (.c (.int .i64 1))⟩,
           ⟨some 11, none, .mov (.t 42)⟩])
          .skip))
        (.seq
         (.seq
          (.reg [⟨some 43, none, .mov (.t 4)⟩,
           ⟨some 44, none, .mov (.t 0)⟩,
           ⟨some 45, none, .mov (.t 3)⟩,
           ⟨some 46, none, .mov (.t 10)⟩,
           ⟨some 47, none, .bin .add (.t 45) (.t 46)⟩,
           ⟨some 48, none, .iaddr (.slice 2) (.t 44) (.t 47)⟩,
           ⟨some 49, none, .load 2 true (.t 48)⟩,
           ⟨some 50, none, .mov (.t 0)⟩,
           ⟨some 51, none, .mov (.t 3)⟩,
           ⟨some 52, none, .mov (.t 11)⟩,
           ⟨some 53, none, .bin .add (.t 51) (.t 52)⟩,
           ⟨some 54, none, .iaddr (.slice 2) (.t 50) (.t 53)⟩,
           ⟨some 55, none, .load 2 true (.t 54)⟩,
           ⟨some 56, none, .calld false (.t 43) [(.t 49), (.t 55)]⟩,
           ⟨some 57, none, .bin .lss (.t 56) (.c (.int .i64 0))⟩,
           ⟨some 58, none, .un .not (.t 57)⟩])
          (.cond (.t 58)
           .ret
           .skip))
         (.seq
          (.reg [⟨some 59, none, .mov (.t 0)⟩,
           ⟨some 60, none, .mov (.t 3)⟩,
           ⟨some 61, none, .mov (.t 10)⟩,
           ⟨some 62, none, .bin .add (.t 60) (.t 61)⟩,
           ⟨some 63, none, .mov (.t 0)⟩,
           ⟨some 64, none, .mov (.t 3)⟩,
           ⟨some 65, none, .mov (.t 11)⟩,
           ⟨some 66, none, .bin .add (.t 64) (.t 65)⟩,
           ⟨some 67, none, .mov (.t 0)⟩,
           ⟨some 68, none, .mov (.t 3)⟩,
           ⟨some 69, none, .mov (.t 11)⟩,
           ⟨some 70, none, .bin .add (.t 68) (.t 69)⟩,
           ⟨some 71, none, .iaddr (.slice 2) (.t 67) (.t 70)⟩,
           ⟨some 72, none, .load 2 true (.t 71)⟩,
           ⟨some 73, none, .mov (.t 0)⟩,
           ⟨some 74, none, .mov (.t 3)⟩,
           ⟨some 75, none, .mov (.t 10)⟩,
           ⟨some 76, none, .bin .add (.t 74) (.t 75)⟩,
           ⟨some 77, none, .iaddr (.slice 2) (.t 73) (.t 76)⟩,
           ⟨some 78, none, .load 2 true (.t 77)⟩,
           ⟨some 79, none, .iaddr (.slice 2) (.t 59) (.t 62)⟩,
           ⟨none, none, .store 2 (.t 79) (.t 72)⟩,
           ⟨some 80, none, .iaddr (.slice 2) (.t 63) (.t 66)⟩,
           ⟨none, none, .store 2 (.t 80) (.t 78)⟩])
          (.reg [⟨some 81, none, .mov (.t 11)⟩,
           ⟨some 10, none, .mov (.t 81)⟩])))))))
/-- slices.siftDownCmpFunc[tracebook/api.Span] -/
def c85 : AFn := ⟨5, 82, [],
 (.seq
  (.reg [⟨some 12, none, .mov (.t 1)⟩,
   ⟨some 10, none, .mov (.t 12)⟩])
  (.block 0
   (.loop [0, 2, 3, 4, 10]
    c85b0))), none⟩
def k85 : List (List Nat) := [[0, 2, 3, 4, 10]]
def o85 : List Nat := [1000023, 1000027, 1000029, 1000031, 1000032, 1000037, 1000041, 1000042, 1000044, 1000046, 1000047, 1000048, 1000049, 1000050, 1000051, 1000052, 1000053, 1000057, 1000058, 1000059, 1000060, 1000061, 1000062, 1000064, 1000065, 1000066, 1000067, 1000070, 1000071, 1000072, 1000073, 1000074, 1000075, 1000076, 1000077, 1000078, 1000079, 1000080, 1000081, 1000082, 1000083, 1000084, 1000085, 1000086, 1000087, 1000088, 3000000]
/-- slices.medianAdjacentCmpFunc[tracebook/api.Span] -/
def c86 : AFn := ⟨4, 18, [.t 8],
 (.seq
  (.reg [⟨some 8, none, .mov (.c (.int .i64 0))⟩])
  (.seq
   (.reg [⟨some 9, none, .mov (.t 0)⟩,
    ⟨some 10, none, .mov (.t 1)⟩,
    ⟨some 11, none, .bin .sub (.t 10) (.c (.int .i64 1))⟩,
    ⟨some 12, none, .mov (.t 1)⟩,
    ⟨some 13, none, .mov (.t 1)⟩,
    ⟨some 14, none, .bin .add (.t 13) (.c (.int .i64 1))⟩,
    ⟨some 15, none, .mov (.t 2)⟩,
    ⟨some 16, none, .mov (.t 3)⟩,
    ⟨some 17, none, .callS 87 [(.t 9), (.t 11), (.t 12), (.t 14), (.t 15), (.t 16)]⟩,
    ⟨some 8, none, .mov (.t 17)⟩])
   .ret)), none⟩
def k86 : List (List Nat) := []
def o86 : List Nat := [1000023, 1000027, 1000029, 1000031, 1000032, 1000037, 1000041, 1000042, 1000044, 1000046, 1000047, 1000048, 1000049, 1000050, 1000051, 1000052, 1000053, 1000057, 1000058, 1000059, 1000060, 1000061, 1000062, 1000064, 1000065, 1000066, 1000067, 1000070, 1000071, 1000072, 1000073, 1000074, 1000075, 1000076, 1000077, 1000078, 1000079, 1000080, 1000081, 1000082, 1000083, 1000084, 1000085, 1000086, 1000087, 1000088, 3000000]
/-- slices.medianCmpFunc[tracebook/api.Span] -/
def c87 : AFn := ⟨6, 41, [.t 12],
 (.seq
  (.reg [⟨some 12, none, .mov (.c (.int .i64 0))⟩])
  (.seq
   (.reg [⟨some 14, none, .mov (.t 0)⟩,
    ⟨some 15, none, .mov (.t 1)⟩,
    ⟨some 16, none, .mov (.t 2)⟩,
    ⟨some 17, none, .mov (.t 4)⟩,
    ⟨some 18, none, .mov (.t 5)⟩,
    ⟨some 19, none, .callS 88 [(.t 14), (.t 15), (.t 16), (.t 17), (.t 18)]⟩,
    ⟨some 13, none, .mov (.t 19)⟩,
    ⟨some 20, none, .ext (.t 13) 0⟩,
    ⟨some 21, none, .ext (.t 13) 1⟩,
    ⟨some 1, none, .mov (.t 20)⟩,
    ⟨some 2, none, .mov (.t 21)⟩])
   (.seq
    (.reg [⟨some 23, none, .mov (.t 0)⟩,
     ⟨some 24, none, .mov (.t 2)⟩,
     ⟨some 25, none, .mov (.t 3)⟩,
     ⟨some 26, none, .mov (.t 4)⟩,
     ⟨some 27, none, .mov (.t 5)⟩,
     ⟨some 28, none, .callS 88 [(.t 23), (.t 24), (.t 25), (.t 26), (.t 27)]⟩,
     ⟨some 22, none, .mov (.t 28)⟩,
     ⟨some 29, none, .ext (.t 22) 0⟩,
     ⟨some 30, none, .ext (.t 22) 1⟩,
     ⟨some 2, none, .mov (.t 29)⟩,
     ⟨some 3, none, .mov (.t 30)⟩])
    (.seq
     (.reg [⟨some 32, none, .mov (.t 0)⟩,
      ⟨some 33, none, .mov (.t 1)⟩,
      ⟨some 34, none, .mov (.t 2)⟩,
      ⟨some 35, none, .mov (.t 4)⟩,
      ⟨some 36, none, .mov (.t 5)⟩,
      ⟨some 37, none, .callS 88 [(.t 32), (.t 33), (.t 34), (.t 35), (.t 36)]⟩,
      ⟨some 31, none, .mov (.t 37)⟩,
      ⟨some 38, none, .ext (.t 31) 0⟩,
      ⟨some 39, none, .ext (.t 31) 1⟩,
      ⟨some 1, none, .mov (.t 38)⟩,
      ⟨some 2, none, .mov (.t 39)⟩])
     (.seq
      (.reg [⟨some 40, none, .mov (.t 2)⟩,
       ⟨some 12, none, .mov (.t 40)⟩])
      .ret))))), none⟩
def k87 : List (List Nat) := []
def o87 : List Nat := [1000023, 1000027, 1000029, 1000031, 1000032, 1000037, 1000041, 1000042, 1000044, 1000046, 1000047, 1000048, 1000049, 1000050, 1000051, 1000052, 1000053, 1000057, 1000058, 1000059, 1000060, 1000061, 1000062, 1000064, 1000065, 1000066, 1000067, 1000070, 1000071, 1000072, 1000073, 1000074, 1000075, 1000076, 1000077, 1000078, 1000079, 1000080, 1000081, 1000082, 1000083, 1000084, 1000085, 1000086, 1000087, 1000088, 3000000]
/-- slices.order2CmpFunc[tracebook/api.Span] -/
def c88 : AFn := ⟨5, 32, [.t 10, .t 11],
 (.seq
  (.reg [⟨some 10, none, .mov (.c (.int .i64 0))⟩,
   ⟨some 11, none, .mov (.c (.int .i64 0))⟩])
  (.seq
   (.seq
    (.reg [⟨some 12, none, .mov (.t 4)⟩,
     ⟨some 13, none, .mov (.t 0)⟩,
     ⟨some 14, none, .mov (.t 2)⟩,
     ⟨some 15, none, .iaddr (.slice 2) (.t 13) (.t 14)⟩,
     ⟨some 16, none, .load 2 true (.t 15)⟩,
     ⟨some 17, none, .mov (.t 0)⟩,
     ⟨some 18, none, .mov (.t 1)⟩,
     ⟨some 19, none, .iaddr (.slice 2) (.t 17) (.t 18)⟩,
     ⟨some 20, none, .load 2 true (.t 19)⟩,
     ⟨some 21, none, .calld false (.t 12) [(.t 16), (.t 20)]⟩,
     ⟨some 22, none, .bin .lss (.t 21) (.c (.int .i64 0))⟩])
    (.cond (.t 22)
     (.seq
      (.reg [⟨some 23, none, .mov (.t 3)⟩,
       ⟨some 24, none, .nilck (.t 23)⟩,
       ⟨some 25, none, .load 1 false (.t 24)⟩,
       ⟨some 26, none, .bin .add (.t 25) (.c (.int .i64 1))⟩,
       ⟨some 27, none, .nilck (.t 23)⟩,
       ⟨none, none, .store 1 (.t 27) (.t 26)⟩])
      (.seq
       (.reg [⟨some 28, none, .mov (.t 2)⟩,
        ⟨some 29, none, .mov (.t 1)⟩,
        ⟨some 10, none, .mov (.t 28)⟩,
        ⟨some 11, none, .mov (.t 29)⟩])
       .ret))
     .skip))
   (.seq
    (.reg [⟨some 30, none, .mov (.t 1)⟩,
     ⟨some 31, none, .mov (.t 2)⟩,
     ⟨some 10, none, .mov (.t 30)⟩,
     ⟨some 11, none, .mov (.t 31)⟩])
    .ret))), none⟩
def k88 : List (List Nat) := []
def o88 : List Nat := [1000023, 1000027, 1000029, 1000031, 1000032, 1000037, 1000041, 1000042, 1000044, 1000046, 1000047, 1000048, 1000049, 1000050, 1000051, 1000052, 1000053, 1000057, 1000058, 1000059, 1000060, 1000061, 1000062, 1000064, 1000065, 1000066, 1000067, 1000070, 1000071, 1000072, 1000073, 1000074, 1000075, 1000076, 1000077, 1000078, 1000079, 1000080, 1000081, 1000082, 1000083, 1000084, 1000085, 1000086, 1000087, 1000088, 3000000]
def tbl : List (Nat × AFn) := [(3, c3), (4, c4), (5, c5), (6, c6), (7, c7), (8, c8), (9, c9), (10, c10), (11, c11), (12, c12), (13, c13), (14, c14), (15, c15), (16, c16), (17, c17), (18, c18), (19, c19), (20, c20), (21, c21), (22, c22), (23, c23), (24, c24), (25, c25), (26, c26), (27, c27), (28, c28), (29, c29), (30, c30), (31, c31), (32, c32), (33, c33), (34, c34), (35, c35), (36, c36), (37, c37), (38, c38), (39, c39), (40, c40), (41, c41), (42, c42), (43, c43), (44, c44), (45, c45), (46, c46), (47, c47), (48, c48), (49, c49), (50, c50), (51, c51), (52, c52), (53, c53), (54, c54), (55, c55), (56, c56), (57, c57), (58, c58), (59, c59), (60, c60), (61, c61), (62, c62), (63, c63), (64, c64), (65, c65), (66, c66), (67, c67), (68, c68), (69, c69), (70, c70), (71, c71), (72, c72), (73, c73), (74, c74), (75, c75), (76, c76), (77, c77), (78, c78), (79, c79), (80, c80), (81, c81), (82, c82), (83, c83), (84, c84), (85, c85), (86, c86), (87, c87), (88, c88)]
theorem d3 : digFn Try.prog o3 k3 Try.f3 = some c3 := by kernel_rfl
theorem d4 : digFn Try.prog o4 k4 Try.f4 = some c4 := by kernel_rfl
theorem d5 : digFn Try.prog o5 k5 Try.f5 = some c5 := by kernel_rfl
theorem d6 : digFn Try.prog o6 k6 Try.f6 = some c6 := by kernel_rfl
theorem d7 : digFn Try.prog o7 k7 Try.f7 = some c7 := by kernel_rfl
theorem d8 : digFn Try.prog o8 k8 Try.f8 = some c8 := by kernel_rfl
theorem d9 : digFn Try.prog o9 k9 Try.f9 = some c9 := by kernel_rfl
theorem d10 : digFn Try.prog o10 k10 Try.f10 = some c10 := by kernel_rfl
theorem d11 : digFn Try.prog o11 k11 Try.f11 = some c11 := by kernel_rfl
theorem d12 : digFn Try.prog o12 k12 Try.f12 = some c12 := by kernel_rfl
theorem d13 : digFn Try.prog o13 k13 Try.f13 = some c13 := by kernel_rfl
theorem d14 : digFn Try.prog o14 k14 Try.f14 = some c14 := by kernel_rfl
theorem d15 : digFn Try.prog o15 k15 Try.f15 = some c15 := by kernel_rfl
theorem d16 : digFn Try.prog o16 k16 Try.f16 = some c16 := by kernel_rfl
theorem d17 : digFn Try.prog o17 k17 Try.f17 = some c17 := by kernel_rfl
theorem d18 : digFn Try.prog o18 k18 Try.f18 = some c18 := by kernel_rfl
theorem d19 : digFn Try.prog o19 k19 Try.f19 = some c19 := by kernel_rfl
theorem d20 : digFn Try.prog o20 k20 Try.f20 = some c20 := by kernel_rfl
theorem d21 : digFn Try.prog o21 k21 Try.f21 = some c21 := by kernel_rfl
theorem d22 : digFn Try.prog o22 k22 Try.f22 = some c22 := by kernel_rfl
theorem d24 : digFn Try.prog o24 k24 Try.f24 = some c24 := by kernel_rfl
theorem d25 : digFn Try.prog o25 k25 Try.f25 = some c25 := by kernel_rfl
theorem d26 : digFn Try.prog o26 k26 Try.f26 = some c26 := by kernel_rfl
theorem d27 : digFn Try.prog o27 k27 Try.f27 = some c27 := by kernel_rfl
theorem d28 : digFn Try.prog o28 k28 Try.f28 = some c28 := by kernel_rfl
theorem d29 : digFn Try.prog o29 k29 Try.f29 = some c29 := by kernel_rfl
theorem d30 : digFn Try.prog o30 k30 Try.f30 = some c30 := by kernel_rfl
theorem d31 : digFn Try.prog o31 k31 Try.f31 = some c31 := by kernel_rfl
theorem d33 : digFn Try.prog o33 k33 Try.f33 = some c33 := by kernel_rfl
theorem d34 : digFn Try.prog o34 k34 Try.f34 = some c34 := by kernel_rfl
theorem d35 : digFn Try.prog o35 k35 Try.f35 = some c35 := by kernel_rfl
theorem d36 : digFn Try.prog o36 k36 Try.f36 = some c36 := by kernel_rfl
theorem d37 : digFn Try.prog o37 k37 Try.f37 = some c37 := by kernel_rfl
theorem d38 : digFn Try.prog o38 k38 Try.f38 = some c38 := by kernel_rfl
theorem d39 : digFn Try.prog o39 k39 Try.f39 = some c39 := by kernel_rfl
theorem d40 : digFn Try.prog o40 k40 Try.f40 = some c40 := by kernel_rfl
theorem d41 : digFn Try.prog o41 k41 Try.f41 = some c41 := by kernel_rfl
theorem d42 : digFn Try.prog o42 k42 Try.f42 = some c42 := by kernel_rfl
theorem d43 : digFn Try.prog o43 k43 Try.f43 = some c43 := by kernel_rfl
theorem d44 : digFn Try.prog o44 k44 Try.f44 = some c44 := by kernel_rfl
theorem d45 : digFn Try.prog o45 k45 Try.f45 = some c45 := by kernel_rfl
theorem d46 : digFn Try.prog o46 k46 Try.f46 = some c46 := by kernel_rfl
theorem d47 : digFn Try.prog o47 k47 Try.f47 = some c47 := by kernel_rfl
theorem d48 : digFn Try.prog o48 k48 Try.f48 = some c48 := by kernel_rfl
theorem d49 : digFn Try.prog o49 k49 Try.f49 = some c49 := by kernel_rfl
theorem d50 : digFn Try.prog o50 k50 Try.f50 = some c50 := by kernel_rfl
theorem d51 : digFn Try.prog o51 k51 Try.f51 = some c51 := by kernel_rfl
theorem d52 : digFn Try.prog o52 k52 Try.f52 = some c52 := by kernel_rfl
theorem d53 : digFn Try.prog o53 k53 Try.f53 = some c53 := by kernel_rfl
theorem d54 : digFn Try.prog o54 k54 Try.f54 = some c54 := by kernel_rfl
theorem d55 : digFn Try.prog o55 k55 Try.f55 = some c55 := by kernel_rfl
theorem d56 : digFn Try.prog o56 k56 Try.f56 = some c56 := by kernel_rfl
theorem d57 : digFn Try.prog o57 k57 Try.f57 = some c57 := by kernel_rfl
theorem d58 : digFn Try.prog o58 k58 Try.f58 = some c58 := by kernel_rfl
theorem d59 : digFn Try.prog o59 k59 Try.f59 = some c59 := by kernel_rfl
theorem d60 : digFn Try.prog o60 k60 Try.f60 = some c60 := by kernel_rfl
theorem d61 : digFn Try.prog o61 k61 Try.f61 = some c61 := by kernel_rfl
theorem d62 : digFn Try.prog o62 k62 Try.f62 = some c62 := by kernel_rfl
theorem d63 : digFn Try.prog o63 k63 Try.f63 = some c63 := by kernel_rfl
theorem d64 : digFn Try.prog o64 k64 Try.f64 = some c64 := by kernel_rfl
theorem d65 : digFn Try.prog o65 k65 Try.f65 = some c65 := by kernel_rfl
theorem d66 : digFn Try.prog o66 k66 Try.f66 = some c66 := by kernel_rfl
theorem d67 : digFn Try.prog o67 k67 Try.f67 = some c67 := by kernel_rfl
theorem d68 : digFn Try.prog o68 k68 Try.f68 = some c68 := by kernel_rfl
theorem d69 : digFn Try.prog o69 k69 Try.f69 = some c69 := by kernel_rfl
theorem d70 : digFn Try.prog o70 k70 Try.f70 = some c70 := by kernel_rfl
theorem d71 : digFn Try.prog o71 k71 Try.f71 = some c71 := by kernel_rfl
theorem d72 : digFn Try.prog o72 k72 Try.f72 = some c72 := by kernel_rfl
theorem d73 : digFn Try.prog o73 k73 Try.f73 = some c73 := by kernel_rfl
theorem d74 : digFn Try.prog o74 k74 Try.f74 = some c74 := by kernel_rfl
theorem d75 : digFn Try.prog o75 k75 Try.f75 = some c75 := by kernel_rfl
theorem d76 : digFn Try.prog o76 k76 Try.f76 = some c76 := by kernel_rfl
theorem d77 : digFn Try.prog o77 k77 Try.f77 = some c77 := by kernel_rfl
theorem d78 : digFn Try.prog o78 k78 Try.f78 = some c78 := by kernel_rfl
theorem d79 : digFn Try.prog o79 k79 Try.f79 = some c79 := by kernel_rfl
theorem d80 : digFn Try.prog o80 k80 Try.f80 = some c80 := by kernel_rfl
theorem d81 : digFn Try.prog o81 k81 Try.f81 = some c81 := by kernel_rfl
theorem d82 : digFn Try.prog o82 k82 Try.f82 = some c82 := by kernel_rfl
theorem d83 : digFn Try.prog o83 k83 Try.f83 = some c83 := by kernel_rfl
theorem d84 : digFn Try.prog o84 k84 Try.f84 = some c84 := by kernel_rfl
theorem d85 : digFn Try.prog o85 k85 Try.f85 = some c85 := by kernel_rfl
theorem d86 : digFn Try.prog o86 k86 Try.f86 = some c86 := by kernel_rfl
theorem d87 : digFn Try.prog o87 k87 Try.f87 = some c87 := by kernel_rfl
theorem d88 : digFn Try.prog o88 k88 Try.f88 = some c88 := by kernel_rfl
def Dg (f : Nat) : Option AFn := lookP tbl f
theorem D3 : Dg 3 = some c3 := by kernel_rfl
theorem D4 : Dg 4 = some c4 := by kernel_rfl
theorem D5 : Dg 5 = some c5 := by kernel_rfl
theorem D6 : Dg 6 = some c6 := by kernel_rfl
theorem D7 : Dg 7 = some c7 := by kernel_rfl
theorem D8 : Dg 8 = some c8 := by kernel_rfl
theorem D9 : Dg 9 = some c9 := by kernel_rfl
theorem D10 : Dg 10 = some c10 := by kernel_rfl
theorem D11 : Dg 11 = some c11 := by kernel_rfl
theorem D12 : Dg 12 = some c12 := by kernel_rfl
theorem D13 : Dg 13 = some c13 := by kernel_rfl
theorem D14 : Dg 14 = some c14 := by kernel_rfl
theorem D15 : Dg 15 = some c15 := by kernel_rfl
theorem D16 : Dg 16 = some c16 := by kernel_rfl
theorem D17 : Dg 17 = some c17 := by kernel_rfl
theorem D18 : Dg 18 = some c18 := by kernel_rfl
theorem D19 : Dg 19 = some c19 := by kernel_rfl
theorem D20 : Dg 20 = some c20 := by kernel_rfl
theorem D21 : Dg 21 = some c21 := by kernel_rfl
theorem D22 : Dg 22 = some c22 := by kernel_rfl
theorem D23 : Dg 23 = some c23 := by kernel_rfl
theorem D24 : Dg 24 = some c24 := by kernel_rfl
theorem D25 : Dg 25 = some c25 := by kernel_rfl
theorem D26 : Dg 26 = some c26 := by kernel_rfl
theorem D27 : Dg 27 = some c27 := by kernel_rfl
theorem D28 : Dg 28 = some c28 := by kernel_rfl
theorem D29 : Dg 29 = some c29 := by kernel_rfl
theorem D30 : Dg 30 = some c30 := by kernel_rfl
theorem D31 : Dg 31 = some c31 := by kernel_rfl
theorem D32 : Dg 32 = some c32 := by kernel_rfl
theorem D33 : Dg 33 = some c33 := by kernel_rfl
theorem D34 : Dg 34 = some c34 := by kernel_rfl
theorem D35 : Dg 35 = some c35 := by kernel_rfl
theorem D36 : Dg 36 = some c36 := by kernel_rfl
theorem D37 : Dg 37 = some c37 := by kernel_rfl
theorem D38 : Dg 38 = some c38 := by kernel_rfl
theorem D39 : Dg 39 = some c39 := by kernel_rfl
theorem D40 : Dg 40 = some c40 := by kernel_rfl
theorem D41 : Dg 41 = some c41 := by kernel_rfl
theorem D42 : Dg 42 = some c42 := by kernel_rfl
theorem D43 : Dg 43 = some c43 := by kernel_rfl
theorem D44 : Dg 44 = some c44 := by kernel_rfl
theorem D45 : Dg 45 = some c45 := by kernel_rfl
theorem D46 : Dg 46 = some c46 := by kernel_rfl
theorem D47 : Dg 47 = some c47 := by kernel_rfl
theorem D48 : Dg 48 = some c48 := by kernel_rfl
theorem D49 : Dg 49 = some c49 := by kernel_rfl
theorem D50 : Dg 50 = some c50 := by kernel_rfl
theorem D51 : Dg 51 = some c51 := by kernel_rfl
theorem D52 : Dg 52 = some c52 := by kernel_rfl
theorem D53 : Dg 53 = some c53 := by kernel_rfl
theorem D54 : Dg 54 = some c54 := by kernel_rfl
theorem D55 : Dg 55 = some c55 := by kernel_rfl
theorem D56 : Dg 56 = some c56 := by kernel_rfl
theorem D57 : Dg 57 = some c57 := by kernel_rfl
theorem D58 : Dg 58 = some c58 := by kernel_rfl
theorem D59 : Dg 59 = some c59 := by kernel_rfl
theorem D60 : Dg 60 = some c60 := by kernel_rfl
theorem D61 : Dg 61 = some c61 := by kernel_rfl
theorem D62 : Dg 62 = some c62 := by kernel_rfl
theorem D63 : Dg 63 = some c63 := by kernel_rfl
theorem D64 : Dg 64 = some c64 := by kernel_rfl
theorem D65 : Dg 65 = some c65 := by kernel_rfl
theorem D66 : Dg 66 = some c66 := by kernel_rfl
theorem D67 : Dg 67 = some c67 := by kernel_rfl
theorem D68 : Dg 68 = some c68 := by kernel_rfl
theorem D69 : Dg 69 = some c69 := by kernel_rfl
theorem D70 : Dg 70 = some c70 := by kernel_rfl
theorem D71 : Dg 71 = some c71 := by kernel_rfl
theorem D72 : Dg 72 = some c72 := by kernel_rfl
theorem D73 : Dg 73 = some c73 := by kernel_rfl
theorem D74 : Dg 74 = some c74 := by kernel_rfl
theorem D75 : Dg 75 = some c75 := by kernel_rfl
theorem D76 : Dg 76 = some c76 := by kernel_rfl
theorem D77 : Dg 77 = some c77 := by kernel_rfl
theorem D78 : Dg 78 = some c78 := by kernel_rfl
theorem D79 : Dg 79 = some c79 := by kernel_rfl
theorem D80 : Dg 80 = some c80 := by kernel_rfl
theorem D81 : Dg 81 = some c81 := by kernel_rfl
theorem D82 : Dg 82 = some c82 := by kernel_rfl
theorem D83 : Dg 83 = some c83 := by kernel_rfl
theorem D84 : Dg 84 = some c84 := by kernel_rfl
theorem D85 : Dg 85 = some c85 := by kernel_rfl
theorem D86 : Dg 86 = some c86 := by kernel_rfl
theorem D87 : Dg 87 = some c87 := by kernel_rfl
theorem D88 : Dg 88 = some c88 := by kernel_rfl
theorem dokL [Bs] : ∀ x ∈ tbl, FnOk Try.prog x.1 x.2 :=
  all_cons (fnok Try.func3 d3) (
  all_cons (fnok Try.func4 d4) (
  all_cons (fnok Try.func5 d5) (
  all_cons (fnok Try.func6 d6) (
  all_cons (fnok Try.func7 d7) (
  all_cons (fnok Try.func8 d8) (
  all_cons (fnok Try.func9 d9) (
  all_cons (fnok Try.func10 d10) (
  all_cons (fnok Try.func11 d11) (
  all_cons (fnok Try.func12 d12) (
  all_cons (fnok Try.func13 d13) (
  all_cons (fnok Try.func14 d14) (
  all_cons (fnok Try.func15 d15) (
  all_cons (fnok Try.func16 d16) (
  all_cons (fnok Try.func17 d17) (
  all_cons (fnok Try.func18 d18) (
  all_cons (fnok Try.func19 d19) (
  all_cons (fnok Try.func20 d20) (
  all_cons (fnok Try.func21 d21) (
  all_cons (fnok Try.func22 d22) (
  all_cons (show FnOk Try.prog 23 c23 from ext23) (
  all_cons (fnok Try.func24 d24) (
  all_cons (fnok Try.func25 d25) (
  all_cons (fnok Try.func26 d26) (
  all_cons (fnok Try.func27 d27) (
  all_cons (fnok Try.func28 d28) (
  all_cons (fnok Try.func29 d29) (
  all_cons (fnok Try.func30 d30) (
  all_cons (fnok Try.func31 d31) (
  all_cons (show FnOk Try.prog 32 c32 from ext32) (
  all_cons (fnok Try.func33 d33) (
  all_cons (fnok Try.func34 d34) (
  all_cons (fnok Try.func35 d35) (
  all_cons (fnok Try.func36 d36) (
  all_cons (fnok Try.func37 d37) (
  all_cons (fnok Try.func38 d38) (
  all_cons (fnok Try.func39 d39) (
  all_cons (fnok Try.func40 d40) (
  all_cons (fnok Try.func41 d41) (
  all_cons (fnok Try.func42 d42) (
  all_cons (fnok Try.func43 d43) (
  all_cons (fnok Try.func44 d44) (
  all_cons (fnok Try.func45 d45) (
  all_cons (fnok Try.func46 d46) (
  all_cons (fnok Try.func47 d47) (
  all_cons (fnok Try.func48 d48) (
  all_cons (fnok Try.func49 d49) (
  all_cons (fnok Try.func50 d50) (
  all_cons (fnok Try.func51 d51) (
  all_cons (fnok Try.func52 d52) (
  all_cons (fnok Try.func53 d53) (
  all_cons (fnok Try.func54 d54) (
  all_cons (fnok Try.func55 d55) (
  all_cons (fnok Try.func56 d56) (
  all_cons (fnok Try.func57 d57) (
  all_cons (fnok Try.func58 d58) (
  all_cons (fnok Try.func59 d59) (
  all_cons (fnok Try.func60 d60) (
  all_cons (fnok Try.func61 d61) (
  all_cons (fnok Try.func62 d62) (
  all_cons (fnok Try.func63 d63) (
  all_cons (fnok Try.func64 d64) (
  all_cons (fnok Try.func65 d65) (
  all_cons (fnok Try.func66 d66) (
  all_cons (fnok Try.func67 d67) (
  all_cons (fnok Try.func68 d68) (
  all_cons (fnok Try.func69 d69) (
  all_cons (fnok Try.func70 d70) (
  all_cons (fnok Try.func71 d71) (
  all_cons (fnok Try.func72 d72) (
  all_cons (fnok Try.func73 d73) (
  all_cons (fnok Try.func74 d74) (
  all_cons (fnok Try.func75 d75) (
  all_cons (fnok Try.func76 d76) (
  all_cons (fnok Try.func77 d77) (
  all_cons (fnok Try.func78 d78) (
  all_cons (fnok Try.func79 d79) (
  all_cons (fnok Try.func80 d80) (
  all_cons (fnok Try.func81 d81) (
  all_cons (fnok Try.func82 d82) (
  all_cons (fnok Try.func83 d83) (
  all_cons (fnok Try.func84 d84) (
  all_cons (fnok Try.func85 d85) (
  all_cons (fnok Try.func86 d86) (
  all_cons (fnok Try.func87 d87) (
  all_cons (fnok Try.func88 d88) (
  all_nil))))))))))))))))))))))))))))))))))))))))))))))))))))))))))))))))))))))))))))))))))))))
theorem dok (bs : Bs) : DOk Try.prog Dg := fun f fc h => dokL (f, fc) (lookP_mem h)

end Go.Proofs.Ytkodjmlhmpokoaa
