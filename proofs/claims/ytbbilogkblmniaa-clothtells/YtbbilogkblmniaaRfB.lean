/-
  The document's table: who is over whom.
-/
import Derived.Test.YtbbilogkblmniaaRfA
import Derived.Test.YtbbilogkblmniaaTuM
namespace Go.Proofs.Ytbbilogkblmniaa
open Go.RowKit

theorem g19_0 {a0 a1 a2 a3 a4 a5 a6 a7 a8 a9 a10 a11 a12 a13 a14 a15 a16 a17 a18 : Oper} : (#[a0, a1, a2, a3, a4, a5, a6, a7, a8, a9, a10, a11, a12, a13, a14, a15, a16, a17, a18] : Array Oper)[0]? = some a0 := rfl
theorem g19_1 {a0 a1 a2 a3 a4 a5 a6 a7 a8 a9 a10 a11 a12 a13 a14 a15 a16 a17 a18 : Oper} : (#[a0, a1, a2, a3, a4, a5, a6, a7, a8, a9, a10, a11, a12, a13, a14, a15, a16, a17, a18] : Array Oper)[1]? = some a1 := rfl
theorem g19_2 {a0 a1 a2 a3 a4 a5 a6 a7 a8 a9 a10 a11 a12 a13 a14 a15 a16 a17 a18 : Oper} : (#[a0, a1, a2, a3, a4, a5, a6, a7, a8, a9, a10, a11, a12, a13, a14, a15, a16, a17, a18] : Array Oper)[2]? = some a2 := rfl
theorem g19_3 {a0 a1 a2 a3 a4 a5 a6 a7 a8 a9 a10 a11 a12 a13 a14 a15 a16 a17 a18 : Oper} : (#[a0, a1, a2, a3, a4, a5, a6, a7, a8, a9, a10, a11, a12, a13, a14, a15, a16, a17, a18] : Array Oper)[3]? = some a3 := rfl
theorem g19_4 {a0 a1 a2 a3 a4 a5 a6 a7 a8 a9 a10 a11 a12 a13 a14 a15 a16 a17 a18 : Oper} : (#[a0, a1, a2, a3, a4, a5, a6, a7, a8, a9, a10, a11, a12, a13, a14, a15, a16, a17, a18] : Array Oper)[4]? = some a4 := rfl
theorem g19_5 {a0 a1 a2 a3 a4 a5 a6 a7 a8 a9 a10 a11 a12 a13 a14 a15 a16 a17 a18 : Oper} : (#[a0, a1, a2, a3, a4, a5, a6, a7, a8, a9, a10, a11, a12, a13, a14, a15, a16, a17, a18] : Array Oper)[5]? = some a5 := rfl
theorem g19_6 {a0 a1 a2 a3 a4 a5 a6 a7 a8 a9 a10 a11 a12 a13 a14 a15 a16 a17 a18 : Oper} : (#[a0, a1, a2, a3, a4, a5, a6, a7, a8, a9, a10, a11, a12, a13, a14, a15, a16, a17, a18] : Array Oper)[6]? = some a6 := rfl
theorem g19_7 {a0 a1 a2 a3 a4 a5 a6 a7 a8 a9 a10 a11 a12 a13 a14 a15 a16 a17 a18 : Oper} : (#[a0, a1, a2, a3, a4, a5, a6, a7, a8, a9, a10, a11, a12, a13, a14, a15, a16, a17, a18] : Array Oper)[7]? = some a7 := rfl
theorem g19_8 {a0 a1 a2 a3 a4 a5 a6 a7 a8 a9 a10 a11 a12 a13 a14 a15 a16 a17 a18 : Oper} : (#[a0, a1, a2, a3, a4, a5, a6, a7, a8, a9, a10, a11, a12, a13, a14, a15, a16, a17, a18] : Array Oper)[8]? = some a8 := rfl
theorem g19_9 {a0 a1 a2 a3 a4 a5 a6 a7 a8 a9 a10 a11 a12 a13 a14 a15 a16 a17 a18 : Oper} : (#[a0, a1, a2, a3, a4, a5, a6, a7, a8, a9, a10, a11, a12, a13, a14, a15, a16, a17, a18] : Array Oper)[9]? = some a9 := rfl
theorem g19_10 {a0 a1 a2 a3 a4 a5 a6 a7 a8 a9 a10 a11 a12 a13 a14 a15 a16 a17 a18 : Oper} : (#[a0, a1, a2, a3, a4, a5, a6, a7, a8, a9, a10, a11, a12, a13, a14, a15, a16, a17, a18] : Array Oper)[10]? = some a10 := rfl
theorem g19_11 {a0 a1 a2 a3 a4 a5 a6 a7 a8 a9 a10 a11 a12 a13 a14 a15 a16 a17 a18 : Oper} : (#[a0, a1, a2, a3, a4, a5, a6, a7, a8, a9, a10, a11, a12, a13, a14, a15, a16, a17, a18] : Array Oper)[11]? = some a11 := rfl
theorem g19_12 {a0 a1 a2 a3 a4 a5 a6 a7 a8 a9 a10 a11 a12 a13 a14 a15 a16 a17 a18 : Oper} : (#[a0, a1, a2, a3, a4, a5, a6, a7, a8, a9, a10, a11, a12, a13, a14, a15, a16, a17, a18] : Array Oper)[12]? = some a12 := rfl
theorem g19_13 {a0 a1 a2 a3 a4 a5 a6 a7 a8 a9 a10 a11 a12 a13 a14 a15 a16 a17 a18 : Oper} : (#[a0, a1, a2, a3, a4, a5, a6, a7, a8, a9, a10, a11, a12, a13, a14, a15, a16, a17, a18] : Array Oper)[13]? = some a13 := rfl
theorem g19_14 {a0 a1 a2 a3 a4 a5 a6 a7 a8 a9 a10 a11 a12 a13 a14 a15 a16 a17 a18 : Oper} : (#[a0, a1, a2, a3, a4, a5, a6, a7, a8, a9, a10, a11, a12, a13, a14, a15, a16, a17, a18] : Array Oper)[14]? = some a14 := rfl
theorem g19_15 {a0 a1 a2 a3 a4 a5 a6 a7 a8 a9 a10 a11 a12 a13 a14 a15 a16 a17 a18 : Oper} : (#[a0, a1, a2, a3, a4, a5, a6, a7, a8, a9, a10, a11, a12, a13, a14, a15, a16, a17, a18] : Array Oper)[15]? = some a15 := rfl
theorem g19_16 {a0 a1 a2 a3 a4 a5 a6 a7 a8 a9 a10 a11 a12 a13 a14 a15 a16 a17 a18 : Oper} : (#[a0, a1, a2, a3, a4, a5, a6, a7, a8, a9, a10, a11, a12, a13, a14, a15, a16, a17, a18] : Array Oper)[16]? = some a16 := rfl
theorem g19_17 {a0 a1 a2 a3 a4 a5 a6 a7 a8 a9 a10 a11 a12 a13 a14 a15 a16 a17 a18 : Oper} : (#[a0, a1, a2, a3, a4, a5, a6, a7, a8, a9, a10, a11, a12, a13, a14, a15, a16, a17, a18] : Array Oper)[17]? = some a17 := rfl
theorem g19_18 {a0 a1 a2 a3 a4 a5 a6 a7 a8 a9 a10 a11 a12 a13 a14 a15 a16 a17 a18 : Oper} : (#[a0, a1, a2, a3, a4, a5, a6, a7, a8, a9, a10, a11, a12, a13, a14, a15, a16, a17, a18] : Array Oper)[18]? = some a18 := rfl
theorem g32_0 {a0 a1 a2 a3 a4 a5 a6 a7 a8 a9 a10 a11 a12 a13 a14 a15 a16 a17 a18 a19 a20 a21 a22 a23 a24 a25 a26 a27 a28 a29 a30 a31 : Oper} : (#[a0, a1, a2, a3, a4, a5, a6, a7, a8, a9, a10, a11, a12, a13, a14, a15, a16, a17, a18, a19, a20, a21, a22, a23, a24, a25, a26, a27, a28, a29, a30, a31] : Array Oper)[0]? = some a0 := rfl
theorem g32_1 {a0 a1 a2 a3 a4 a5 a6 a7 a8 a9 a10 a11 a12 a13 a14 a15 a16 a17 a18 a19 a20 a21 a22 a23 a24 a25 a26 a27 a28 a29 a30 a31 : Oper} : (#[a0, a1, a2, a3, a4, a5, a6, a7, a8, a9, a10, a11, a12, a13, a14, a15, a16, a17, a18, a19, a20, a21, a22, a23, a24, a25, a26, a27, a28, a29, a30, a31] : Array Oper)[1]? = some a1 := rfl
theorem g32_2 {a0 a1 a2 a3 a4 a5 a6 a7 a8 a9 a10 a11 a12 a13 a14 a15 a16 a17 a18 a19 a20 a21 a22 a23 a24 a25 a26 a27 a28 a29 a30 a31 : Oper} : (#[a0, a1, a2, a3, a4, a5, a6, a7, a8, a9, a10, a11, a12, a13, a14, a15, a16, a17, a18, a19, a20, a21, a22, a23, a24, a25, a26, a27, a28, a29, a30, a31] : Array Oper)[2]? = some a2 := rfl
theorem g32_3 {a0 a1 a2 a3 a4 a5 a6 a7 a8 a9 a10 a11 a12 a13 a14 a15 a16 a17 a18 a19 a20 a21 a22 a23 a24 a25 a26 a27 a28 a29 a30 a31 : Oper} : (#[a0, a1, a2, a3, a4, a5, a6, a7, a8, a9, a10, a11, a12, a13, a14, a15, a16, a17, a18, a19, a20, a21, a22, a23, a24, a25, a26, a27, a28, a29, a30, a31] : Array Oper)[3]? = some a3 := rfl
theorem g32_4 {a0 a1 a2 a3 a4 a5 a6 a7 a8 a9 a10 a11 a12 a13 a14 a15 a16 a17 a18 a19 a20 a21 a22 a23 a24 a25 a26 a27 a28 a29 a30 a31 : Oper} : (#[a0, a1, a2, a3, a4, a5, a6, a7, a8, a9, a10, a11, a12, a13, a14, a15, a16, a17, a18, a19, a20, a21, a22, a23, a24, a25, a26, a27, a28, a29, a30, a31] : Array Oper)[4]? = some a4 := rfl
theorem g32_5 {a0 a1 a2 a3 a4 a5 a6 a7 a8 a9 a10 a11 a12 a13 a14 a15 a16 a17 a18 a19 a20 a21 a22 a23 a24 a25 a26 a27 a28 a29 a30 a31 : Oper} : (#[a0, a1, a2, a3, a4, a5, a6, a7, a8, a9, a10, a11, a12, a13, a14, a15, a16, a17, a18, a19, a20, a21, a22, a23, a24, a25, a26, a27, a28, a29, a30, a31] : Array Oper)[5]? = some a5 := rfl
theorem g32_6 {a0 a1 a2 a3 a4 a5 a6 a7 a8 a9 a10 a11 a12 a13 a14 a15 a16 a17 a18 a19 a20 a21 a22 a23 a24 a25 a26 a27 a28 a29 a30 a31 : Oper} : (#[a0, a1, a2, a3, a4, a5, a6, a7, a8, a9, a10, a11, a12, a13, a14, a15, a16, a17, a18, a19, a20, a21, a22, a23, a24, a25, a26, a27, a28, a29, a30, a31] : Array Oper)[6]? = some a6 := rfl
theorem g32_7 {a0 a1 a2 a3 a4 a5 a6 a7 a8 a9 a10 a11 a12 a13 a14 a15 a16 a17 a18 a19 a20 a21 a22 a23 a24 a25 a26 a27 a28 a29 a30 a31 : Oper} : (#[a0, a1, a2, a3, a4, a5, a6, a7, a8, a9, a10, a11, a12, a13, a14, a15, a16, a17, a18, a19, a20, a21, a22, a23, a24, a25, a26, a27, a28, a29, a30, a31] : Array Oper)[7]? = some a7 := rfl
theorem g32_8 {a0 a1 a2 a3 a4 a5 a6 a7 a8 a9 a10 a11 a12 a13 a14 a15 a16 a17 a18 a19 a20 a21 a22 a23 a24 a25 a26 a27 a28 a29 a30 a31 : Oper} : (#[a0, a1, a2, a3, a4, a5, a6, a7, a8, a9, a10, a11, a12, a13, a14, a15, a16, a17, a18, a19, a20, a21, a22, a23, a24, a25, a26, a27, a28, a29, a30, a31] : Array Oper)[8]? = some a8 := rfl
theorem g32_9 {a0 a1 a2 a3 a4 a5 a6 a7 a8 a9 a10 a11 a12 a13 a14 a15 a16 a17 a18 a19 a20 a21 a22 a23 a24 a25 a26 a27 a28 a29 a30 a31 : Oper} : (#[a0, a1, a2, a3, a4, a5, a6, a7, a8, a9, a10, a11, a12, a13, a14, a15, a16, a17, a18, a19, a20, a21, a22, a23, a24, a25, a26, a27, a28, a29, a30, a31] : Array Oper)[9]? = some a9 := rfl
theorem g32_10 {a0 a1 a2 a3 a4 a5 a6 a7 a8 a9 a10 a11 a12 a13 a14 a15 a16 a17 a18 a19 a20 a21 a22 a23 a24 a25 a26 a27 a28 a29 a30 a31 : Oper} : (#[a0, a1, a2, a3, a4, a5, a6, a7, a8, a9, a10, a11, a12, a13, a14, a15, a16, a17, a18, a19, a20, a21, a22, a23, a24, a25, a26, a27, a28, a29, a30, a31] : Array Oper)[10]? = some a10 := rfl
theorem g32_11 {a0 a1 a2 a3 a4 a5 a6 a7 a8 a9 a10 a11 a12 a13 a14 a15 a16 a17 a18 a19 a20 a21 a22 a23 a24 a25 a26 a27 a28 a29 a30 a31 : Oper} : (#[a0, a1, a2, a3, a4, a5, a6, a7, a8, a9, a10, a11, a12, a13, a14, a15, a16, a17, a18, a19, a20, a21, a22, a23, a24, a25, a26, a27, a28, a29, a30, a31] : Array Oper)[11]? = some a11 := rfl
theorem g32_12 {a0 a1 a2 a3 a4 a5 a6 a7 a8 a9 a10 a11 a12 a13 a14 a15 a16 a17 a18 a19 a20 a21 a22 a23 a24 a25 a26 a27 a28 a29 a30 a31 : Oper} : (#[a0, a1, a2, a3, a4, a5, a6, a7, a8, a9, a10, a11, a12, a13, a14, a15, a16, a17, a18, a19, a20, a21, a22, a23, a24, a25, a26, a27, a28, a29, a30, a31] : Array Oper)[12]? = some a12 := rfl
theorem g32_13 {a0 a1 a2 a3 a4 a5 a6 a7 a8 a9 a10 a11 a12 a13 a14 a15 a16 a17 a18 a19 a20 a21 a22 a23 a24 a25 a26 a27 a28 a29 a30 a31 : Oper} : (#[a0, a1, a2, a3, a4, a5, a6, a7, a8, a9, a10, a11, a12, a13, a14, a15, a16, a17, a18, a19, a20, a21, a22, a23, a24, a25, a26, a27, a28, a29, a30, a31] : Array Oper)[13]? = some a13 := rfl
theorem g32_14 {a0 a1 a2 a3 a4 a5 a6 a7 a8 a9 a10 a11 a12 a13 a14 a15 a16 a17 a18 a19 a20 a21 a22 a23 a24 a25 a26 a27 a28 a29 a30 a31 : Oper} : (#[a0, a1, a2, a3, a4, a5, a6, a7, a8, a9, a10, a11, a12, a13, a14, a15, a16, a17, a18, a19, a20, a21, a22, a23, a24, a25, a26, a27, a28, a29, a30, a31] : Array Oper)[14]? = some a14 := rfl
theorem g32_15 {a0 a1 a2 a3 a4 a5 a6 a7 a8 a9 a10 a11 a12 a13 a14 a15 a16 a17 a18 a19 a20 a21 a22 a23 a24 a25 a26 a27 a28 a29 a30 a31 : Oper} : (#[a0, a1, a2, a3, a4, a5, a6, a7, a8, a9, a10, a11, a12, a13, a14, a15, a16, a17, a18, a19, a20, a21, a22, a23, a24, a25, a26, a27, a28, a29, a30, a31] : Array Oper)[15]? = some a15 := rfl
theorem g32_16 {a0 a1 a2 a3 a4 a5 a6 a7 a8 a9 a10 a11 a12 a13 a14 a15 a16 a17 a18 a19 a20 a21 a22 a23 a24 a25 a26 a27 a28 a29 a30 a31 : Oper} : (#[a0, a1, a2, a3, a4, a5, a6, a7, a8, a9, a10, a11, a12, a13, a14, a15, a16, a17, a18, a19, a20, a21, a22, a23, a24, a25, a26, a27, a28, a29, a30, a31] : Array Oper)[16]? = some a16 := rfl
theorem g32_17 {a0 a1 a2 a3 a4 a5 a6 a7 a8 a9 a10 a11 a12 a13 a14 a15 a16 a17 a18 a19 a20 a21 a22 a23 a24 a25 a26 a27 a28 a29 a30 a31 : Oper} : (#[a0, a1, a2, a3, a4, a5, a6, a7, a8, a9, a10, a11, a12, a13, a14, a15, a16, a17, a18, a19, a20, a21, a22, a23, a24, a25, a26, a27, a28, a29, a30, a31] : Array Oper)[17]? = some a17 := rfl
theorem g32_18 {a0 a1 a2 a3 a4 a5 a6 a7 a8 a9 a10 a11 a12 a13 a14 a15 a16 a17 a18 a19 a20 a21 a22 a23 a24 a25 a26 a27 a28 a29 a30 a31 : Oper} : (#[a0, a1, a2, a3, a4, a5, a6, a7, a8, a9, a10, a11, a12, a13, a14, a15, a16, a17, a18, a19, a20, a21, a22, a23, a24, a25, a26, a27, a28, a29, a30, a31] : Array Oper)[18]? = some a18 := rfl
theorem g32_19 {a0 a1 a2 a3 a4 a5 a6 a7 a8 a9 a10 a11 a12 a13 a14 a15 a16 a17 a18 a19 a20 a21 a22 a23 a24 a25 a26 a27 a28 a29 a30 a31 : Oper} : (#[a0, a1, a2, a3, a4, a5, a6, a7, a8, a9, a10, a11, a12, a13, a14, a15, a16, a17, a18, a19, a20, a21, a22, a23, a24, a25, a26, a27, a28, a29, a30, a31] : Array Oper)[19]? = some a19 := rfl
theorem g32_20 {a0 a1 a2 a3 a4 a5 a6 a7 a8 a9 a10 a11 a12 a13 a14 a15 a16 a17 a18 a19 a20 a21 a22 a23 a24 a25 a26 a27 a28 a29 a30 a31 : Oper} : (#[a0, a1, a2, a3, a4, a5, a6, a7, a8, a9, a10, a11, a12, a13, a14, a15, a16, a17, a18, a19, a20, a21, a22, a23, a24, a25, a26, a27, a28, a29, a30, a31] : Array Oper)[20]? = some a20 := rfl
theorem g32_21 {a0 a1 a2 a3 a4 a5 a6 a7 a8 a9 a10 a11 a12 a13 a14 a15 a16 a17 a18 a19 a20 a21 a22 a23 a24 a25 a26 a27 a28 a29 a30 a31 : Oper} : (#[a0, a1, a2, a3, a4, a5, a6, a7, a8, a9, a10, a11, a12, a13, a14, a15, a16, a17, a18, a19, a20, a21, a22, a23, a24, a25, a26, a27, a28, a29, a30, a31] : Array Oper)[21]? = some a21 := rfl
theorem g32_22 {a0 a1 a2 a3 a4 a5 a6 a7 a8 a9 a10 a11 a12 a13 a14 a15 a16 a17 a18 a19 a20 a21 a22 a23 a24 a25 a26 a27 a28 a29 a30 a31 : Oper} : (#[a0, a1, a2, a3, a4, a5, a6, a7, a8, a9, a10, a11, a12, a13, a14, a15, a16, a17, a18, a19, a20, a21, a22, a23, a24, a25, a26, a27, a28, a29, a30, a31] : Array Oper)[22]? = some a22 := rfl
theorem g32_23 {a0 a1 a2 a3 a4 a5 a6 a7 a8 a9 a10 a11 a12 a13 a14 a15 a16 a17 a18 a19 a20 a21 a22 a23 a24 a25 a26 a27 a28 a29 a30 a31 : Oper} : (#[a0, a1, a2, a3, a4, a5, a6, a7, a8, a9, a10, a11, a12, a13, a14, a15, a16, a17, a18, a19, a20, a21, a22, a23, a24, a25, a26, a27, a28, a29, a30, a31] : Array Oper)[23]? = some a23 := rfl
theorem g32_24 {a0 a1 a2 a3 a4 a5 a6 a7 a8 a9 a10 a11 a12 a13 a14 a15 a16 a17 a18 a19 a20 a21 a22 a23 a24 a25 a26 a27 a28 a29 a30 a31 : Oper} : (#[a0, a1, a2, a3, a4, a5, a6, a7, a8, a9, a10, a11, a12, a13, a14, a15, a16, a17, a18, a19, a20, a21, a22, a23, a24, a25, a26, a27, a28, a29, a30, a31] : Array Oper)[24]? = some a24 := rfl
theorem g32_25 {a0 a1 a2 a3 a4 a5 a6 a7 a8 a9 a10 a11 a12 a13 a14 a15 a16 a17 a18 a19 a20 a21 a22 a23 a24 a25 a26 a27 a28 a29 a30 a31 : Oper} : (#[a0, a1, a2, a3, a4, a5, a6, a7, a8, a9, a10, a11, a12, a13, a14, a15, a16, a17, a18, a19, a20, a21, a22, a23, a24, a25, a26, a27, a28, a29, a30, a31] : Array Oper)[25]? = some a25 := rfl
theorem g32_26 {a0 a1 a2 a3 a4 a5 a6 a7 a8 a9 a10 a11 a12 a13 a14 a15 a16 a17 a18 a19 a20 a21 a22 a23 a24 a25 a26 a27 a28 a29 a30 a31 : Oper} : (#[a0, a1, a2, a3, a4, a5, a6, a7, a8, a9, a10, a11, a12, a13, a14, a15, a16, a17, a18, a19, a20, a21, a22, a23, a24, a25, a26, a27, a28, a29, a30, a31] : Array Oper)[26]? = some a26 := rfl
theorem g32_27 {a0 a1 a2 a3 a4 a5 a6 a7 a8 a9 a10 a11 a12 a13 a14 a15 a16 a17 a18 a19 a20 a21 a22 a23 a24 a25 a26 a27 a28 a29 a30 a31 : Oper} : (#[a0, a1, a2, a3, a4, a5, a6, a7, a8, a9, a10, a11, a12, a13, a14, a15, a16, a17, a18, a19, a20, a21, a22, a23, a24, a25, a26, a27, a28, a29, a30, a31] : Array Oper)[27]? = some a27 := rfl
theorem g32_28 {a0 a1 a2 a3 a4 a5 a6 a7 a8 a9 a10 a11 a12 a13 a14 a15 a16 a17 a18 a19 a20 a21 a22 a23 a24 a25 a26 a27 a28 a29 a30 a31 : Oper} : (#[a0, a1, a2, a3, a4, a5, a6, a7, a8, a9, a10, a11, a12, a13, a14, a15, a16, a17, a18, a19, a20, a21, a22, a23, a24, a25, a26, a27, a28, a29, a30, a31] : Array Oper)[28]? = some a28 := rfl
theorem g32_29 {a0 a1 a2 a3 a4 a5 a6 a7 a8 a9 a10 a11 a12 a13 a14 a15 a16 a17 a18 a19 a20 a21 a22 a23 a24 a25 a26 a27 a28 a29 a30 a31 : Oper} : (#[a0, a1, a2, a3, a4, a5, a6, a7, a8, a9, a10, a11, a12, a13, a14, a15, a16, a17, a18, a19, a20, a21, a22, a23, a24, a25, a26, a27, a28, a29, a30, a31] : Array Oper)[29]? = some a29 := rfl
theorem g32_30 {a0 a1 a2 a3 a4 a5 a6 a7 a8 a9 a10 a11 a12 a13 a14 a15 a16 a17 a18 a19 a20 a21 a22 a23 a24 a25 a26 a27 a28 a29 a30 a31 : Oper} : (#[a0, a1, a2, a3, a4, a5, a6, a7, a8, a9, a10, a11, a12, a13, a14, a15, a16, a17, a18, a19, a20, a21, a22, a23, a24, a25, a26, a27, a28, a29, a30, a31] : Array Oper)[30]? = some a30 := rfl
theorem g32_31 {a0 a1 a2 a3 a4 a5 a6 a7 a8 a9 a10 a11 a12 a13 a14 a15 a16 a17 a18 a19 a20 a21 a22 a23 a24 a25 a26 a27 a28 a29 a30 a31 : Oper} : (#[a0, a1, a2, a3, a4, a5, a6, a7, a8, a9, a10, a11, a12, a13, a14, a15, a16, a17, a18, a19, a20, a21, a22, a23, a24, a25, a26, a27, a28, a29, a30, a31] : Array Oper)[31]? = some a31 := rfl

theorem info22 : (Try.prog.info? 22).map (fun i => (i.zero, i.size, i.bytes)) = some (some (.slice none 0 0), 1, 24) := by kernel_rfl
/-- a table: rows of truths -/
def Tbl (V : World) (tb N : Nat) (rq : Nat → Nat) (T : Nat → Nat → Bool) : Prop :=
  tb < V.heap.size ∧ (∀ a, a < N → (∃ c, V.cell? ⟨tb, a, none⟩ = some (.slice (some ⟨rq a, 0, none⟩) N c)) ∧ BRow V (rq a) N (T a) ∧ rq a ≠ tb) ∧ ∀ a b, a < N → b < N → rq a = rq b → a = b
theorem Tbl.keep {V V' : World} {tb N : Nat} {rq : Nat → Nat} {T : Nat → Nat → Bool} (k : Tbl V tb N rq T) (hb : Below V.heap.size V V') : Tbl V' tb N rq T :=
  ⟨Nat.lt_of_lt_of_le k.1 hb.size, fun a ha => by
    obtain ⟨⟨c, h1⟩, h2, h3⟩ := k.2.1 a ha
    exact ⟨⟨c, keepC hb k.1 h1⟩, h2.keep hb, h3⟩, k.2.2⟩
/-- the first x rows of a table are done, the others are empty -/
def TbP (V : World) (tb N x : Nat) (rq : Nat → Nat) (T : Nat → Nat → Bool) : Prop :=
  tb < V.heap.size ∧ (∀ a, a < N → V.frozen? ⟨tb, a, none⟩ = false) ∧ (∀ a, a < x → (∃ c, V.cell? ⟨tb, a, none⟩ = some (.slice (some ⟨rq a, 0, none⟩) N c)) ∧ BRow V (rq a) N (T a) ∧ rq a ≠ tb) ∧ (∀ a, x ≤ a → a < N → V.cell? ⟨tb, a, none⟩ = some (.slice none 0 0)) ∧ ∀ a b, a < x → b < x → rq a = rq b → a = b
theorem TbP.made {V : World} {B tb N : Nat} {T : Nat → Nat → Bool} (k : V.ownsRow B 22 1 (.slice (some ⟨tb, 0, none⟩) N N) N (madeCells #[.slice none 0 0] N).toList) : TbP V tb N 0 (fun _ => 0) T :=
  ⟨(k.lt tb rfl).2, fun a _ => k.frozenAt a, fun a ha => by omega, fun a _ ha => by rw [k.cellAt a (by omega), toList_madeCells_one, List.getElem?_replicate, if_pos (by omega)], fun a b ha => by omega⟩
theorem TbP.all {V : World} {tb N : Nat} {rq : Nat → Nat} {T : Nat → Nat → Bool} (k : TbP V tb N N rq T) : Tbl V tb N rq T := ⟨k.1, k.2.2.1, k.2.2.2.2⟩
/-- another row's place -/
def putR (rq : Nat → Nat) (x q a : Nat) : Nat := if a = x then q else rq a
/-- one row more: the table's cell x holds it, all else of the table is as it was -/
theorem TbP.more {V V' : World} {tb N x q c : Nat} {rq : Nat → Nat} {T : Nat → Nat → Bool} (k : TbP V tb N x rq T) (hx : x < N) (hg : V.grownBy V' (some tb)) (hfz : ∀ a, a < N → V'.frozen? ⟨tb, a, none⟩ = false) (hcells : ∀ a, a < N → a ≠ x → V'.cell? ⟨tb, a, none⟩ = V.cell? ⟨tb, a, none⟩) (hc : V'.cell? ⟨tb, x, none⟩ = some (.slice (some ⟨q, 0, none⟩) N c)) (hq : V.heap.size ≤ q) (hr : BRow V' q N (T x)) :
    TbP V' tb N (x + 1) (putR rq x q) T := by
  have hold : ∀ a, a < x → rq a < V.heap.size := fun a ha => (k.2.2.1 a ha).2.1.1
  have htb := k.1
  have e0 : putR rq x q x = q := by simp [putR]
  have e1 : ∀ a, a ≠ x → putR rq x q a = rq a := fun a h => by simp [putR, h]
  refine ⟨Nat.lt_of_lt_of_le k.1 hg.size, hfz, fun a ha => ?_, fun a h1 h2 => ?_, fun a b ha hb e => ?_⟩
  · by_cases e : a = x
    · subst e
      rw [e0]
      exact ⟨⟨c, hc⟩, hr, by omega⟩
    · rw [e1 a e]
      obtain ⟨⟨c', h1⟩, h2, h3⟩ := k.2.2.1 a (by omega)
      exact ⟨⟨c', by rw [hcells a (by omega) e]; exact h1⟩, h2.grown hg (fun e' => h3 (Option.some.inj e')), h3⟩
  · rw [hcells a h2 (by omega)]; exact k.2.2.2.1 a (by omega) h2
  · by_cases c1 : a = x
    · by_cases c2 : b = x
      · omega
      · rw [c1, e0, e1 b c2] at e
        have := hold b (by omega)
        omega
    · by_cases c2 : b = x
      · rw [c2, e0, e1 a c1] at e
        have := hold a (by omega)
        omega
      · rw [e1 a c1, e1 b c2] at e
        exact k.2.2.2.2 a b (by omega) (by omega) e
/-- the table's first truths -/
def t0 (f : Nat → Bool) (w a b : Nat) : Bool := a == b || ab f w a b
theorem own_brow {W : World} {B m cap g : Nat} {f : Nat → Bool} (h : W.ownsRow B 4 1 (.slice (some ⟨g, 0, none⟩) m cap) m (bitsV f m)) : BRow W g m f := ⟨(h.lt g rfl).2, fun k hk => ⟨by rw [h.cellAt k (by omega)]; simp [bitsV, hk], h.frozenAt k⟩⟩
/-- a round of the table's row: the row so far, in the table's cell -/
def RowQ (V0 V : World) (tb N x y : Nat) (q : Option Addr) (c : Nat) (f : Nat → Bool) (w : Nat) : Prop := V.cell? ⟨tb, x, none⟩ = some (.slice q y c) ∧ V.ownsRow V0.heap.size 4 1 (.slice q y c) y (bitsV (t0 f w x) y) ∧ V0.grownBy V (some tb) ∧ (∀ a, a < N → V.frozen? ⟨tb, a, none⟩ = false) ∧ (∀ a, a < N → a ≠ x → V.cell? ⟨tb, a, none⟩ = V0.cell? ⟨tb, a, none⟩)
theorem RowQ.keep {V0 V V' : World} {tb N x y : Nat} {q : Option Addr} {c : Nat} {f : Nat → Bool} {w : Nat} (k : RowQ V0 V tb N x y q c f w) (ht : tb < V0.heap.size) (hb : Below V.heap.size V V') : RowQ V0 V' tb N x y q c f w := by
  have ht2 : tb < V.heap.size := Nat.lt_of_lt_of_le ht k.2.2.1.size
  exact ⟨keepC hb ht2 k.1, own_keep k.2.1 hb, gtrans k.2.2.1 (gbelow _ hb), fun a ha => keepF hb ht2 (k.2.2.2.1 a ha), fun a ha hne => by rw [hb.cell (p := ⟨tb, a, none⟩) ht2]; exact k.2.2.2.2 a ha hne⟩
theorem RowQ.next {V0 V V' : World} {tb N x y : Nat} {q q' : Option Addr} {c c' : Nat} {f : Nat → Bool} {w : Nat} {v : Bool} (k : RowQ V0 V tb N x y q c f w) (ht : tb < V0.heap.size) (hx : x < N) (hv : t0 f w x y = v) (hg : V.grownBy V' (Value.slice q y c).ownBlock) (ho : V'.ownsRow V0.heap.size 4 1 (.slice q' (y + 1) c') (y + 1) (bitsV (t0 f w x) y ++ [.bool v])) :
    (V'.cell? ⟨tb, x, none⟩ = some (.slice q y c) ∧ V'.frozen? ⟨tb, x, none⟩ = false ∧ V0.grownBy V' (some tb)) ∧ RowQ V0 (V'.setCell ⟨tb, x, none⟩ (.slice q' (y + 1) c')) tb N x (y + 1) q' c' f w := by
  have hne : some tb ≠ (Value.slice q y c).ownBlock := fun e => by have := (k.2.1.lt tb e.symm).1; omega
  have ht2 : tb < V.heap.size := Nat.lt_of_lt_of_le ht k.2.2.1.size
  have hg2 : V0.grownBy V' (some tb) := gmore k.2.2.1 hg (fun j e => (k.2.1.lt j e).1)
  have c1 : V'.cell? ⟨tb, x, none⟩ = some (.slice q y c) := gcell hg ht2 hne k.1
  have fz : ∀ a, a < N → V'.frozen? ⟨tb, a, none⟩ = false := fun a ha => gfroz hg ht2 hne (k.2.2.2.1 a ha)
  refine ⟨⟨c1, fz x hx, hg2⟩, World.cell?_setCell_same' _ _ _ (by rw [c1]; rfl), ?_, gset hg2 x _, fun a ha => by rw [World.frozen?_setCell]; exact fz a ha, fun a ha hne2 => ?_⟩
  · rw [bitsV_succ, hv]
    exact ownsRow_setCell_below ho (a := ⟨tb, x, none⟩) ht (.slice q' (y + 1) c')
  · rw [World.cell?_setCell_other _ _ _ _ (by intro e; cases e; exact hne2 rfl), World.cell?_of_block (hg.block tb ht2 hne)]
    exact k.2.2.2.2 a ha hne2

/-- the table in the round k, when all ahead of row a, and of it all ahead of b, is done -/
def wk (r : Nat → Nat → Bool) (k a b : Nat) (a' b' : Nat) : Bool := if a' < a ∨ (a' = a ∧ b' < b) then wt r (k + 1) a' b' else wt r k a' b'
theorem wk_row {r : Nat → Nat → Bool} {k a N a' b' : Nat} (hb : b' < N) : wk r k a N a' b' = wk r k (a + 1) 0 a' b' := by
  unfold wk
  by_cases c : a' < a ∨ (a' = a ∧ b' < N)
  · rw [if_pos c, if_pos (by omega)]
  · rw [if_neg c, if_neg (by omega)]
theorem wk_end {r : Nat → Nat → Bool} {k N a' b' : Nat} (ha : a' < N) : wk r k N 0 a' b' = wt r (k + 1) a' b' := by
  unfold wk; rw [if_pos (.inl ha)]
theorem wk_zero {r : Nat → Nat → Bool} {k a' b' : Nat} : wk r k 0 0 a' b' = wt r k a' b' := by
  unfold wk; rw [if_neg (by omega)]
theorem wk_here {r : Nat → Nat → Bool} {k a b : Nat} : wk r k a b a b = wt r k a b := by
  unfold wk; rw [if_neg (by omega)]
theorem wk_col {r : Nat → Nat → Bool} {k a b : Nat} : wk r k a b a k = wt r k a k := by
  unfold wk; split
  · exact wt_self1 r k a
  · rfl
theorem wk_line {r : Nat → Nat → Bool} {k a b : Nat} : wk r k a b k b = wt r k k b := by
  unfold wk; split
  · exact wt_self2 r k b
  · rfl
theorem wk_step {r : Nat → Nat → Bool} {k a b : Nat} : (fun a' b' => if a' = a ∧ b' = b then wt r (k + 1) a b else wk r k a b a' b') = wk r k a (b + 1) := by
  funext a' b'
  unfold wk
  by_cases c : a' = a ∧ b' = b
  · obtain ⟨rfl, rfl⟩ := c
    rw [if_pos ⟨rfl, rfl⟩, if_pos (by omega)]
  · rw [if_neg c]
    by_cases d : a' < a ∨ (a' = a ∧ b' < b)
    · rw [if_pos d, if_pos (by omega)]
    · rw [if_neg d, if_neg (by omega)]
theorem Tbl.congr {V : World} {tb N : Nat} {rq : Nat → Nat} {T T' : Nat → Nat → Bool} (k : Tbl V tb N rq T) (e : ∀ a b, a < N → b < N → T a b = T' a b) : Tbl V tb N rq T' := ⟨k.1, fun a ha => ⟨(k.2.1 a ha).1, (k.2.1 a ha).2.1.congr (fun j hj => e a j ha hj), (k.2.1 a ha).2.2⟩, k.2.2⟩
theorem Tbl.set {V : World} {tb N a b : Nat} {rq : Nat → Nat} {T : Nat → Nat → Bool} (k : Tbl V tb N rq T) (ha : a < N) (v : Bool) : Tbl (V.setCell ⟨rq a, b, none⟩ (.bool v)) tb N rq (fun a' b' => if a' = a ∧ b' = b then v else T a' b') := by
  have hg := gset (World.grownBy.refl V (some (rq a))) b (.bool v)
  refine ⟨by simpa using k.1, fun a' ha' => ?_, k.2.2⟩
  obtain ⟨⟨c, h1⟩, h2, h3⟩ := k.2.1 a' ha'
  refine ⟨⟨c, gcell hg k.1 (fun e => (k.2.1 a ha).2.2 (Option.some.inj e).symm) h1⟩, ?_, h3⟩
  by_cases e : a' = a
  · subst e
    have := h2.set b v
    refine this.congr fun j _ => ?_
    by_cases c1 : j = b
    · simp [c1]
    · simp [c1]
  · refine (h2.grown hg (fun e' => e (k.2.2 a' a ha' ha (Option.some.inj e')))).congr fun j _ => ?_
    simp [e]

set_option maxRecDepth 100000 in
set_option maxHeartbeats 8000000 in
theorem table_any {W : World} {w h : Nat} {p : Option Addr} {n cap : Nat} {f : Nat → Bool} (r : Rt W w h p n cap f) :
    Calls Try.prog 21 #[tr w h p n cap] W fun e V => ∃ tb N rq, e = .returned (.slice (some ⟨tb, 0, none⟩) N N) ∧ N = w + h ∧ Tbl V tb N rq (ov f w h) ∧ W.heap.size ≤ tb ∧ Below W.heap.size W V := by
  obtain ⟨i0, hi, hz0, hz1, hz2⟩ := info_parts info4
  obtain ⟨i2, hi2, hy0, hy1, hy2⟩ := info_parts info22
  have hw := r.1
  have hh := r.2.1
  obtain ⟨N, hN⟩ : ∃ N : Nat, N = w + h := ⟨_, rfl⟩
  have e1 : (w : Int) + (h : Int) = (N : Int) := by omega
  have HN := hide hN
  have hN128 : N ≤ 128 := by omega
  have hby : i2.bytes * N ≤ 281474976710656 := by rw [hy2]; omega
  have hml : N ≤ maxLen := by unfold maxLen; omega
  have HT := hide (Tb.new r)
  have B0 := hide (bal (o := .cells #[.int .i64 w, .int .i64 h, .slice p n cap] 24) (Below.refl W.heap.size W))
  clear r hN
  go_enter Try.func21, Try.ntmps21
  go_wp2_with (refine wpList_make_full _ rfl _ _ 44 rfl (W.heap.size + 1) 22 i2 _ 1 Try.underlying44 hi2 hy0 hy1 .i64 .i64 (N : Int) (N : Int) N rfl rfl rfl rfl hby hml (by simp) ?_)
  intro wm hown hgrow
  have HP0 := hide (TbP.made (T := t0 f w) hown)
  have HS0 := hide ((Below.refl _ (W.alloc (.cells #[.int .i64 w, .int .i64 h, .slice p n cap] 24))).grown hgrow (Nat.le_refl _) (fun k hk => by cases hk))
  clear hown hgrow hi2 hy0 hy1 hy2 hby hml
  go_wp2
  have hbi : (W.alloc (.cells #[.int .i64 w, .int .i64 h, .slice p n cap] 24)).heap.size = W.heap.size + 1 := by simp
  generalize W.alloc (.cells #[.int .i64 w, .int .i64 h, .slice p n cap] 24) = w0 at *
  have hbi' : W.heap.size ≤ W.heap.size + 1 := by omega
  generalize htb : W.heap.size + 1 = tb at *
  have Hbi := hide hbi
  have Htb := hide htb
  clear hbi htb e1
  go_loopw [19] (fun i wr => ∃ (x : Nat) (rq : Nat → Nat), x ≤ N ∧ i = .int .i64 x ∧ TbP wr tb N x rq (t0 f w) ∧ Hid (∀ a, a < x → w0.heap.size ≤ rq a) ∧ Below w0.heap.size w0 wr) (fun i _ => N - (intOf i).toNat)
  case atStart => exact ⟨0, _, Nat.zero_le _, rfl, unhide HP0, (fun a ha => by omega : ∀ a, a < 0 → _), unhide HS0⟩
  case round =>
    clear HP0 HS0
    obtain ⟨x, rq, hx, rfl, hP, Hnew, hb⟩ := hrel
    have HP := hide hP
    have Hb := hide hb
    clear hP hb
    by_cases hlt : x < N
    · have q1 : (x : Int) < (N : Int) := by omega
      have q2 : (0 : Int) ≤ (x : Int) := by omega
      have HR0 := hide (show RowQ wr wr tb N x 0 none 0 f w from ⟨(unhide HP).2.2.2.1 x (Nat.le_refl _) hlt, World.ownsRow_nil _ _ _ _, World.grownBy.refl _ _, (unhide HP).2.1, fun a _ _ => rfl⟩)
      obtain ⟨wq, hwq⟩ : ∃ wq, wq = wr := ⟨_, rfl⟩
      rw [← hwq] at HP Hb
      have HR1 := hide (show RowQ wq wr tb N x 0 none 0 f w by rw [hwq]; exact unhide HR0)
      clear HR0 hwq
      have htb : tb < wq.heap.size := (unhide HP).1
      have Hld0 := hide (show ∀ V, wq.grownBy V (some tb) → Tb V W.heap.size w h p n cap f from fun V hV => (unhide HT).keep ((unhide Hb).grown hV (unhide Hb).size (fun j e => by cases e; rw [unhide Hbi]; exact Nat.le_refl _)))
      have Hld := hide (show ∀ V, wq.grownBy V (some tb) → (V.cell? ⟨W.heap.size, 0, none⟩ = some (.int .i64 w) ∧ V.cell? ⟨W.heap.size, 1, none⟩ = some (.int .i64 h) ∧ V.cell? ⟨W.heap.size, 2, none⟩ = some (.slice p n cap)) from fun V hV => (unhide Hld0 V hV).1.2)
      go_wp2
      go_loopw [6] (fun i wr => ∃ y : Nat, y ≤ N ∧ i = .int .i64 y ∧ ∃ q c, RowQ wq wr tb N x y q c f w) (fun i _ => N - (intOf i).toNat)
      case atStart => exact ⟨0, Nat.zero_le _, rfl, none, 0, unhide HR1⟩
      case round =>
        clear HR1
        obtain ⟨y, hy, rfl, q, c, RQ0⟩ := hrel
        by_cases hly : y < N
        · have q3 : (y : Int) < (N : Int) := by omega
          have q4 : (0 : Int) ≤ (y : Int) := by omega
          by_cases hxy : x = y
          · subst hxy
            have gxy : ((x : Int) == (x : Int)) = true := by simp
            obtain ⟨v, hv⟩ : ∃ v : Bool, v = true := ⟨_, rfl⟩
            have Hv := hide (show t0 f w x x = v by rw [hv]; simp [t0])
            subst hv
            go_wp2_with fail
            refine wp_region_noPanic ?_
            refine wp_region_held_drew (S := fun V => wq.grownBy V (some tb)) (by kernel_rfl) (gtrans RQ0.2.2.1 (gbelow _ (Below.drew (Below.refl _ _)))) ?_
            intro hS0
            have RQ := RQ0.keep htb (Below.drew (Below.refl _ _))
            have c5 := RQ.1
            have hSd := RQ.2.2.1
            clear RQ0
            generalize hwc : wr.drew = wc at *
            clear hwc
            refine wpAnyH_take (i := 0) (oi := _) (v := .slice (some ⟨tb, 0, none⟩) N N) g19_0 (by kernel_rfl) (by kernel_rfl) (by kernel_rfl) (fun _ _ _ h => h) (Or.inl ⟨by rfl, ?_⟩) (by assumption) ?_
            · intro V hSw
              try dsimp only at hSw
              go_simp
            simp only [Act.put, List.setIfInBounds_toArray, List.set_cons_zero, List.set_cons_succ]
            refine wpAnyH_take (i := 1) (oi := _) (v := .int .i64 x) g19_1 (by kernel_rfl) (by kernel_rfl) (by kernel_rfl) (fun _ _ _ h => h) (Or.inl ⟨by rfl, ?_⟩) (by assumption) ?_
            · intro V hSw
              try dsimp only at hSw
              go_simp
            simp only [Act.put, List.setIfInBounds_toArray, List.set_cons_zero, List.set_cons_succ]
            refine wpAnyH_take (i := 2) (oi := _) (v := .slice (some ⟨tb, 0, none⟩) N N) g19_2 (by kernel_rfl) (by kernel_rfl) (by kernel_rfl) (fun _ _ _ h => h) (Or.inl ⟨by rfl, ?_⟩) (by assumption) ?_
            · intro V hSw
              try dsimp only at hSw
              go_simp
            simp only [Act.put, List.setIfInBounds_toArray, List.set_cons_zero, List.set_cons_succ]
            refine wpAnyH_take (i := 3) (oi := _) (v := .int .i64 x) g19_3 (by kernel_rfl) (by kernel_rfl) (by kernel_rfl) (fun _ _ _ h => h) (Or.inl ⟨by rfl, ?_⟩) (by assumption) ?_
            · intro V hSw
              try dsimp only at hSw
              go_simp
            simp only [Act.put, List.setIfInBounds_toArray, List.set_cons_zero, List.set_cons_succ]
            refine wpAnyH_take (i := 4) (oi := _) (v := .pointer (some ⟨tb, x, none⟩)) g19_4 (by kernel_rfl) (by kernel_rfl) (by kernel_rfl) (fun _ _ _ h => h) (Or.inl ⟨by rfl, ?_⟩) (by assumption) ?_
            · intro V hSw
              try dsimp only at hSw
              go_simp
            simp only [Act.put, List.setIfInBounds_toArray, List.set_cons_zero, List.set_cons_succ]
            refine wpAnyH_take (i := 6) (oi := _) (v := .int .i64 x) g19_6 (by kernel_rfl) (by kernel_rfl) (by kernel_rfl) (fun _ _ _ h => h) (Or.inl ⟨by rfl, ?_⟩) (by assumption) ?_
            · intro V hSw
              try dsimp only at hSw
              go_simp
            simp only [Act.put, List.setIfInBounds_toArray, List.set_cons_zero, List.set_cons_succ]
            refine wpAnyH_take (i := 7) (oi := _) (v := .int .i64 x) g19_7 (by kernel_rfl) (by kernel_rfl) (by kernel_rfl) (fun _ _ _ h => h) (Or.inl ⟨by rfl, ?_⟩) (by assumption) ?_
            · intro V hSw
              try dsimp only at hSw
              go_simp
            simp only [Act.put, List.setIfInBounds_toArray, List.set_cons_zero, List.set_cons_succ]
            refine wpAnyH_take (i := 8) (oi := _) (v := .bool true) g19_8 (by kernel_rfl) (by kernel_rfl) (by kernel_rfl) (fun _ _ _ h => h) (Or.inl ⟨by rfl, ?_⟩) (by assumption) ?_
            · intro V hSw
              try dsimp only at hSw
              go_simp
            simp only [Act.put, List.setIfInBounds_toArray, List.set_cons_zero, List.set_cons_succ]
            refine wpAnyH_take (i := 9) (oi := _) (v := .bool true) g19_9 (by kernel_rfl) (by kernel_rfl) (by kernel_rfl) (fun _ _ _ h => h) (Or.inl ⟨by rfl, ?_⟩) (by assumption) ?_
            · intro V hSw
              try dsimp only at hSw
              go_simp
            simp only [Act.put, List.setIfInBounds_toArray, List.set_cons_zero, List.set_cons_succ]
            refine wpAnyH_take (i := 10) (oi := _) (v := undef) g19_10 (by kernel_rfl) (by kernel_rfl) (by kernel_rfl) (fun _ _ _ h => h) (Or.inr ⟨by rfl, rfl⟩) (by assumption) ?_
            simp only [Act.put, List.setIfInBounds_toArray, List.set_cons_zero, List.set_cons_succ]
            refine wpAnyH_take (i := 11) (oi := _) (v := undef) g19_11 (by kernel_rfl) (by kernel_rfl) (by kernel_rfl) (fun _ _ _ h => h) (Or.inr ⟨by rfl, rfl⟩) (by assumption) ?_
            simp only [Act.put, List.setIfInBounds_toArray, List.set_cons_zero, List.set_cons_succ]
            refine wpAnyH_take (i := 12) (oi := _) (v := undef) g19_12 (by kernel_rfl) (by kernel_rfl) (by kernel_rfl) (fun _ _ _ h => h) (Or.inr ⟨by rfl, rfl⟩) (by assumption) ?_
            simp only [Act.put, List.setIfInBounds_toArray, List.set_cons_zero, List.set_cons_succ]
            refine wpAnyH_take (i := 13) (oi := _) (v := undef) g19_13 (by kernel_rfl) (by kernel_rfl) (by kernel_rfl) (fun _ _ _ h => h) (Or.inr ⟨by rfl, rfl⟩) (by assumption) ?_
            simp only [Act.put, List.setIfInBounds_toArray, List.set_cons_zero, List.set_cons_succ]
            refine wpAnyH_take (i := 14) (oi := _) (v := .bool true) g19_14 (by kernel_rfl) (by kernel_rfl) (by kernel_rfl) (fun _ _ _ h => h) (Or.inl ⟨by rfl, ?_⟩) (by assumption) ?_
            · intro V hSw
              try dsimp only at hSw
              go_simp
            simp only [Act.put, List.setIfInBounds_toArray, List.set_cons_zero, List.set_cons_succ]
            refine wpAnyH_ready (rs := [5, 15]) (by kernel_rfl) (by simp) ?_
            refine AllReadyH.cons (o := _) g19_5 (fun K hK => ?_) (AllReadyH.cons (o := _) g19_15 (fun K hK => ?_) AllReadyH.nil)
            · go_simp
              refine hK.out _ _ hSd (fun _ => ?_)
              clear hK K
              refine wpAnyH_ready (rs := [15]) (by kernel_rfl) (by simp) ?_
              refine AllReadyH.cons (o := _) g19_15 (fun K hK => ?_) AllReadyH.nil
              go_simp
              refine hK.out _ _ (gtrans hSd (gbelow _ (bal (o := .cells #[.bool true] 4) (Below.refl _ _)))) (fun hSa => ?_)
              clear hK K
              have hSd := hSa
              refine wpAnyH_ready (rs := [16]) (by kernel_rfl) (by simp) ?_
              refine AllReadyH.cons (o := _) g19_16 (fun K hK => ?_) AllReadyH.nil
              refine wp_append_own _ _ _ 22 rfl wq.heap.size 4 i0 (.bool false) 1 1 Try.underlying22 hi hz0 hz1 hz2 rfl (by decide) (.slice q x c) x (bitsV (t0 f w x) x) rfl (RQ.2.1.alloc _) ⟨wc.heap.size, 0, none⟩ 1 1 [.bool true] rfl ?c11 ?c21 ?c31 ?c41 ?c51 ?c61 ?_
              case c11 => rfl
              case c21 =>
                intro j u hj
                match j, hj with
                | 0, hj => simp at hj; subst hj; simp [Addr.add]
              case c31 => intro u hu; simp at hu; subst hu; rfl
              case c41 => unfold maxLen; omega
              case c51 => omega
              case c61 => simp; have := RQ.2.2.1.size; omega
              intro v' w4 hown' hgrow _
              obtain ⟨q', cap', rfl⟩ := own_form hown'
              have RN := (RQ.keep htb (bal (o := .cells #[.bool true] 4) (Below.refl _ _))).next htb hlt (unhide Hv) hgrow hown'
              obtain ⟨⟨d1, d2, S4⟩, R5⟩ := RN
              refine hK.out _ _ S4 (fun _ => ?_)
              clear hK K
              refine wpAnyH_ready (rs := [17]) (by kernel_rfl) (by simp) ?_
              refine AllReadyH.cons (o := _) g19_17 (fun K hK => ?_) AllReadyH.nil
              go_simp
              refine hK.out _ _ S4 (fun _ => ?_)
              clear hK K
              refine wpAnyH_ready (rs := [18]) (by kernel_rfl) (by simp) ?_
              refine AllReadyH.cons (o := _) g19_18 (fun K hK => ?_) AllReadyH.nil
              go_simp
              refine hK.out _ _ R5.2.2.1 (fun _ => ?_)
              refine wpAnyH_done (by kernel_rfl) ?_ _
              refine NoPanic.normal ?_
              have HR5 := hide R5
              clear hK K d1 d2 S4 hown' hgrow RQ R5 hSd
              go_wp2
              go_roundw
              case rel => exact ⟨x + 1, by omega, by go_num, q', cap', unhide HR5⟩
              case measure => simp [intOf]; omega
            · go_simp
              have c5a := (RQ.keep htb (bal (o := .cells #[.bool true] 4) (Below.refl _ _))).1
              refine hK.out _ _ (gtrans hSd (gbelow _ (bal (o := .cells #[.bool true] 4) (Below.refl _ _)))) (fun hSa => ?_)
              clear hK K
              have hSd := hSa
              refine wpAnyH_ready (rs := [5]) (by kernel_rfl) (by simp) ?_
              refine AllReadyH.cons (o := _) g19_5 (fun K hK => ?_) AllReadyH.nil
              go_simp
              refine hK.out _ _ hSd (fun _ => ?_)
              clear hK K c5a
              refine wpAnyH_ready (rs := [16]) (by kernel_rfl) (by simp) ?_
              refine AllReadyH.cons (o := _) g19_16 (fun K hK => ?_) AllReadyH.nil
              refine wp_append_own _ _ _ 22 rfl wq.heap.size 4 i0 (.bool false) 1 1 Try.underlying22 hi hz0 hz1 hz2 rfl (by decide) (.slice q x c) x (bitsV (t0 f w x) x) rfl (RQ.2.1.alloc _) ⟨wc.heap.size, 0, none⟩ 1 1 [.bool true] rfl ?c12 ?c22 ?c32 ?c42 ?c52 ?c62 ?_
              case c12 => rfl
              case c22 =>
                intro j u hj
                match j, hj with
                | 0, hj => simp at hj; subst hj; simp [Addr.add]
              case c32 => intro u hu; simp at hu; subst hu; rfl
              case c42 => unfold maxLen; omega
              case c52 => omega
              case c62 => simp; have := RQ.2.2.1.size; omega
              intro v' w4 hown' hgrow _
              obtain ⟨q', cap', rfl⟩ := own_form hown'
              have RN := (RQ.keep htb (bal (o := .cells #[.bool true] 4) (Below.refl _ _))).next htb hlt (unhide Hv) hgrow hown'
              obtain ⟨⟨d1, d2, S4⟩, R5⟩ := RN
              refine hK.out _ _ S4 (fun _ => ?_)
              clear hK K
              refine wpAnyH_ready (rs := [17]) (by kernel_rfl) (by simp) ?_
              refine AllReadyH.cons (o := _) g19_17 (fun K hK => ?_) AllReadyH.nil
              go_simp
              refine hK.out _ _ S4 (fun _ => ?_)
              clear hK K
              refine wpAnyH_ready (rs := [18]) (by kernel_rfl) (by simp) ?_
              refine AllReadyH.cons (o := _) g19_18 (fun K hK => ?_) AllReadyH.nil
              go_simp
              refine hK.out _ _ R5.2.2.1 (fun _ => ?_)
              refine wpAnyH_done (by kernel_rfl) ?_ _
              refine NoPanic.normal ?_
              have HR5 := hide R5
              clear hK K d1 d2 S4 hown' hgrow RQ R5 hSd
              go_wp2
              go_roundw
              case rel => exact ⟨x + 1, by omega, by go_num, q', cap', unhide HR5⟩
              case measure => simp [intOf]; omega
          · have gxy : ((x : Int) == (y : Int)) = false := by simp; omega
            have HA := hide (show ∀ V, wq.grownBy V (some tb) → RAbIs V w h p n cap x y (ab f w x y) from fun V hV => rab_any (unhide Hld0 V hV).2 x y (by rw [← unhide HN]; exact hlt) (by rw [← unhide HN]; exact hly))
            have Hv := hide (show t0 f w x y = ab f w x y by simp [t0, hxy])
            generalize ab f w x y = v at *
            clear hxy
            go_wp2_with fail
            refine wp_region_noPanic ?_
            refine wp_region_held_drew (S := fun V => wq.grownBy V (some tb)) (by kernel_rfl) (gtrans RQ0.2.2.1 (gbelow _ (Below.drew (Below.refl _ _)))) ?_
            intro hS0
            have RQ := RQ0.keep htb (Below.drew (Below.refl _ _))
            have c5 := RQ.1
            have hSd := RQ.2.2.1
            clear RQ0
            generalize hwc : wr.drew = wc at *
            clear hwc
            refine wpAnyH_take (i := 0) (oi := _) (v := .slice (some ⟨tb, 0, none⟩) N N) g19_0 (by kernel_rfl) (by kernel_rfl) (by kernel_rfl) (fun _ _ _ h => h) (Or.inl ⟨by rfl, ?_⟩) (by assumption) ?_
            · intro V hSw
              try dsimp only at hSw
              go_simp
            simp only [Act.put, List.setIfInBounds_toArray, List.set_cons_zero, List.set_cons_succ]
            refine wpAnyH_take (i := 1) (oi := _) (v := .int .i64 x) g19_1 (by kernel_rfl) (by kernel_rfl) (by kernel_rfl) (fun _ _ _ h => h) (Or.inl ⟨by rfl, ?_⟩) (by assumption) ?_
            · intro V hSw
              try dsimp only at hSw
              go_simp
            simp only [Act.put, List.setIfInBounds_toArray, List.set_cons_zero, List.set_cons_succ]
            refine wpAnyH_take (i := 2) (oi := _) (v := .slice (some ⟨tb, 0, none⟩) N N) g19_2 (by kernel_rfl) (by kernel_rfl) (by kernel_rfl) (fun _ _ _ h => h) (Or.inl ⟨by rfl, ?_⟩) (by assumption) ?_
            · intro V hSw
              try dsimp only at hSw
              go_simp
            simp only [Act.put, List.setIfInBounds_toArray, List.set_cons_zero, List.set_cons_succ]
            refine wpAnyH_take (i := 3) (oi := _) (v := .int .i64 x) g19_3 (by kernel_rfl) (by kernel_rfl) (by kernel_rfl) (fun _ _ _ h => h) (Or.inl ⟨by rfl, ?_⟩) (by assumption) ?_
            · intro V hSw
              try dsimp only at hSw
              go_simp
            simp only [Act.put, List.setIfInBounds_toArray, List.set_cons_zero, List.set_cons_succ]
            refine wpAnyH_take (i := 4) (oi := _) (v := .pointer (some ⟨tb, x, none⟩)) g19_4 (by kernel_rfl) (by kernel_rfl) (by kernel_rfl) (fun _ _ _ h => h) (Or.inl ⟨by rfl, ?_⟩) (by assumption) ?_
            · intro V hSw
              try dsimp only at hSw
              go_simp
            simp only [Act.put, List.setIfInBounds_toArray, List.set_cons_zero, List.set_cons_succ]
            refine wpAnyH_take (i := 6) (oi := _) (v := .int .i64 x) g19_6 (by kernel_rfl) (by kernel_rfl) (by kernel_rfl) (fun _ _ _ h => h) (Or.inl ⟨by rfl, ?_⟩) (by assumption) ?_
            · intro V hSw
              try dsimp only at hSw
              go_simp
            simp only [Act.put, List.setIfInBounds_toArray, List.set_cons_zero, List.set_cons_succ]
            refine wpAnyH_take (i := 7) (oi := _) (v := .int .i64 y) g19_7 (by kernel_rfl) (by kernel_rfl) (by kernel_rfl) (fun _ _ _ h => h) (Or.inl ⟨by rfl, ?_⟩) (by assumption) ?_
            · intro V hSw
              try dsimp only at hSw
              go_simp
            simp only [Act.put, List.setIfInBounds_toArray, List.set_cons_zero, List.set_cons_succ]
            refine wpAnyH_take (i := 8) (oi := _) (v := .bool false) g19_8 (by kernel_rfl) (by kernel_rfl) (by kernel_rfl) (fun _ _ _ h => h) (Or.inl ⟨by rfl, ?_⟩) (by assumption) ?_
            · intro V hSw
              try dsimp only at hSw
              go_simp
            simp only [Act.put, List.setIfInBounds_toArray, List.set_cons_zero, List.set_cons_succ]
            refine wpAnyH_take (i := 9) (oi := _) (v := .bool false) g19_9 (by kernel_rfl) (by kernel_rfl) (by kernel_rfl) (fun _ _ _ h => h) (Or.inl ⟨by rfl, ?_⟩) (by assumption) ?_
            · intro V hSw
              try dsimp only at hSw
              go_simp
            simp only [Act.put, List.setIfInBounds_toArray, List.set_cons_zero, List.set_cons_succ]
            refine wpAnyH_take (i := 10) (oi := _) (v := .agg #[.int .i64 w, .int .i64 h, .slice p n cap]) g19_10 (by kernel_rfl) (by kernel_rfl) (by kernel_rfl) (fun _ _ _ h => h) (Or.inl ⟨by rfl, ?_⟩) (by assumption) ?_
            · intro V hSw
              try dsimp only at hSw
              have hl := unhide Hld V hSw
              go_simp
            simp only [Act.put, List.setIfInBounds_toArray, List.set_cons_zero, List.set_cons_succ]
            refine wpAnyH_take (i := 11) (oi := _) (v := .int .i64 x) g19_11 (by kernel_rfl) (by kernel_rfl) (by kernel_rfl) (fun _ _ _ h => h) (Or.inl ⟨by rfl, ?_⟩) (by assumption) ?_
            · intro V hSw
              try dsimp only at hSw
              go_simp
            simp only [Act.put, List.setIfInBounds_toArray, List.set_cons_zero, List.set_cons_succ]
            refine wpAnyH_take (i := 12) (oi := _) (v := .int .i64 y) g19_12 (by kernel_rfl) (by kernel_rfl) (by kernel_rfl) (fun _ _ _ h => h) (Or.inl ⟨by rfl, ?_⟩) (by assumption) ?_
            · intro V hSw
              try dsimp only at hSw
              go_simp
            simp only [Act.put, List.setIfInBounds_toArray, List.set_cons_zero, List.set_cons_succ]
            refine wpAnyH_ready (rs := [5, 13]) (by kernel_rfl) (by simp) ?_
            refine AllReadyH.cons (o := _) g19_5 (fun K hK => ?_) (AllReadyH.cons (o := _) g19_13 (fun K hK => ?_) AllReadyH.nil)
            · go_simp
              refine hK.out _ _ hSd (fun _ => ?_)
              clear hK K
              refine wpAnyH_ready (rs := [13]) (by kernel_rfl) (by simp) ?_
              refine AllReadyH.cons (o := _) g19_13 (fun K hK => ?_) AllReadyH.nil
              go_simp
              refine (unhide HA _ hSd).mono ?_
              rintro e wd ⟨rfl, hbc⟩
              have RQ2 := RQ.keep htb hbc
              refine hK.out _ _ RQ2.2.2.1 (fun hSc => ?_)
              clear hK K
              have RQ := RQ2
              have c5 := RQ.1
              have hSd := hSc
              clear RQ2 hbc
              clear hS0
              generalize wd = wc at *
              refine wpAnyH_take (i := 14) (oi := _) (v := .bool v) g19_14 (by kernel_rfl) (by kernel_rfl) (by kernel_rfl) (fun _ _ _ h => h) (Or.inl ⟨by rfl, ?_⟩) (by assumption) ?_
              · intro V hSw
                try dsimp only at hSw
                go_simp
              simp only [Act.put, List.setIfInBounds_toArray, List.set_cons_zero, List.set_cons_succ]
              refine wpAnyH_ready (rs := [15]) (by kernel_rfl) (by simp) ?_
              refine AllReadyH.cons (o := _) g19_15 (fun K hK => ?_) AllReadyH.nil
              go_simp
              refine hK.out _ _ (gtrans hSd (gbelow _ (bal (o := .cells #[.bool v] 4) (Below.refl _ _)))) (fun hSa => ?_)
              clear hK K
              have hSd := hSa
              refine wpAnyH_ready (rs := [16]) (by kernel_rfl) (by simp) ?_
              refine AllReadyH.cons (o := _) g19_16 (fun K hK => ?_) AllReadyH.nil
              refine wp_append_own _ _ _ 22 rfl wq.heap.size 4 i0 (.bool false) 1 1 Try.underlying22 hi hz0 hz1 hz2 rfl (by decide) (.slice q y c) y (bitsV (t0 f w x) y) rfl (RQ.2.1.alloc _) ⟨wc.heap.size, 0, none⟩ 1 1 [.bool v] rfl ?c13 ?c23 ?c33 ?c43 ?c53 ?c63 ?_
              case c13 => rfl
              case c23 =>
                intro j u hj
                match j, hj with
                | 0, hj => simp at hj; subst hj; simp [Addr.add]
              case c33 => intro u hu; simp at hu; subst hu; rfl
              case c43 => unfold maxLen; omega
              case c53 => omega
              case c63 => simp; have := RQ.2.2.1.size; omega
              intro v' w4 hown' hgrow _
              obtain ⟨q', cap', rfl⟩ := own_form hown'
              have RN := (RQ.keep htb (bal (o := .cells #[.bool v] 4) (Below.refl _ _))).next htb hlt (unhide Hv) hgrow hown'
              obtain ⟨⟨d1, d2, S4⟩, R5⟩ := RN
              refine hK.out _ _ S4 (fun _ => ?_)
              clear hK K
              refine wpAnyH_ready (rs := [17]) (by kernel_rfl) (by simp) ?_
              refine AllReadyH.cons (o := _) g19_17 (fun K hK => ?_) AllReadyH.nil
              go_simp
              refine hK.out _ _ S4 (fun _ => ?_)
              clear hK K
              refine wpAnyH_ready (rs := [18]) (by kernel_rfl) (by simp) ?_
              refine AllReadyH.cons (o := _) g19_18 (fun K hK => ?_) AllReadyH.nil
              go_simp
              refine hK.out _ _ R5.2.2.1 (fun _ => ?_)
              refine wpAnyH_done (by kernel_rfl) ?_ _
              refine NoPanic.normal ?_
              have HR5 := hide R5
              clear hK K d1 d2 S4 hown' hgrow RQ R5 hSd
              go_wp2
              go_roundw
              case rel => exact ⟨y + 1, by omega, by go_num, q', cap', unhide HR5⟩
              case measure => simp [intOf]; omega
            · go_simp
              refine (unhide HA _ hSd).mono ?_
              rintro e wd ⟨rfl, hbc⟩
              have RQ2 := RQ.keep htb hbc
              refine hK.out _ _ RQ2.2.2.1 (fun hSc => ?_)
              clear hK K
              have RQ := RQ2
              have c5 := RQ.1
              have hSd := hSc
              clear RQ2 hbc
              clear hS0
              generalize wd = wc at *
              refine wpAnyH_take (i := 14) (oi := _) (v := .bool v) g19_14 (by kernel_rfl) (by kernel_rfl) (by kernel_rfl) (fun _ _ _ h => h) (Or.inl ⟨by rfl, ?_⟩) (by assumption) ?_
              · intro V hSw
                try dsimp only at hSw
                go_simp
              simp only [Act.put, List.setIfInBounds_toArray, List.set_cons_zero, List.set_cons_succ]
              refine wpAnyH_ready (rs := [5, 15]) (by kernel_rfl) (by simp) ?_
              refine AllReadyH.cons (o := _) g19_5 (fun K hK => ?_) (AllReadyH.cons (o := _) g19_15 (fun K hK => ?_) AllReadyH.nil)
              · go_simp
                refine hK.out _ _ hSd (fun _ => ?_)
                clear hK K
                refine wpAnyH_ready (rs := [15]) (by kernel_rfl) (by simp) ?_
                refine AllReadyH.cons (o := _) g19_15 (fun K hK => ?_) AllReadyH.nil
                go_simp
                refine hK.out _ _ (gtrans hSd (gbelow _ (bal (o := .cells #[.bool v] 4) (Below.refl _ _)))) (fun hSa => ?_)
                clear hK K
                have hSd := hSa
                refine wpAnyH_ready (rs := [16]) (by kernel_rfl) (by simp) ?_
                refine AllReadyH.cons (o := _) g19_16 (fun K hK => ?_) AllReadyH.nil
                refine wp_append_own _ _ _ 22 rfl wq.heap.size 4 i0 (.bool false) 1 1 Try.underlying22 hi hz0 hz1 hz2 rfl (by decide) (.slice q y c) y (bitsV (t0 f w x) y) rfl (RQ.2.1.alloc _) ⟨wc.heap.size, 0, none⟩ 1 1 [.bool v] rfl ?c14 ?c24 ?c34 ?c44 ?c54 ?c64 ?_
                case c14 => rfl
                case c24 =>
                  intro j u hj
                  match j, hj with
                  | 0, hj => simp at hj; subst hj; simp [Addr.add]
                case c34 => intro u hu; simp at hu; subst hu; rfl
                case c44 => unfold maxLen; omega
                case c54 => omega
                case c64 => simp; have := RQ.2.2.1.size; omega
                intro v' w4 hown' hgrow _
                obtain ⟨q', cap', rfl⟩ := own_form hown'
                have RN := (RQ.keep htb (bal (o := .cells #[.bool v] 4) (Below.refl _ _))).next htb hlt (unhide Hv) hgrow hown'
                obtain ⟨⟨d1, d2, S4⟩, R5⟩ := RN
                refine hK.out _ _ S4 (fun _ => ?_)
                clear hK K
                refine wpAnyH_ready (rs := [17]) (by kernel_rfl) (by simp) ?_
                refine AllReadyH.cons (o := _) g19_17 (fun K hK => ?_) AllReadyH.nil
                go_simp
                refine hK.out _ _ S4 (fun _ => ?_)
                clear hK K
                refine wpAnyH_ready (rs := [18]) (by kernel_rfl) (by simp) ?_
                refine AllReadyH.cons (o := _) g19_18 (fun K hK => ?_) AllReadyH.nil
                go_simp
                refine hK.out _ _ R5.2.2.1 (fun _ => ?_)
                refine wpAnyH_done (by kernel_rfl) ?_ _
                refine NoPanic.normal ?_
                have HR5 := hide R5
                clear hK K d1 d2 S4 hown' hgrow RQ R5 hSd
                go_wp2
                go_roundw
                case rel => exact ⟨y + 1, by omega, by go_num, q', cap', unhide HR5⟩
                case measure => simp [intOf]; omega
              · go_simp
                have c5a := (RQ.keep htb (bal (o := .cells #[.bool v] 4) (Below.refl _ _))).1
                refine hK.out _ _ (gtrans hSd (gbelow _ (bal (o := .cells #[.bool v] 4) (Below.refl _ _)))) (fun hSa => ?_)
                clear hK K
                have hSd := hSa
                refine wpAnyH_ready (rs := [5]) (by kernel_rfl) (by simp) ?_
                refine AllReadyH.cons (o := _) g19_5 (fun K hK => ?_) AllReadyH.nil
                go_simp
                refine hK.out _ _ hSd (fun _ => ?_)
                clear hK K c5a
                refine wpAnyH_ready (rs := [16]) (by kernel_rfl) (by simp) ?_
                refine AllReadyH.cons (o := _) g19_16 (fun K hK => ?_) AllReadyH.nil
                refine wp_append_own _ _ _ 22 rfl wq.heap.size 4 i0 (.bool false) 1 1 Try.underlying22 hi hz0 hz1 hz2 rfl (by decide) (.slice q y c) y (bitsV (t0 f w x) y) rfl (RQ.2.1.alloc _) ⟨wc.heap.size, 0, none⟩ 1 1 [.bool v] rfl ?c15 ?c25 ?c35 ?c45 ?c55 ?c65 ?_
                case c15 => rfl
                case c25 =>
                  intro j u hj
                  match j, hj with
                  | 0, hj => simp at hj; subst hj; simp [Addr.add]
                case c35 => intro u hu; simp at hu; subst hu; rfl
                case c45 => unfold maxLen; omega
                case c55 => omega
                case c65 => simp; have := RQ.2.2.1.size; omega
                intro v' w4 hown' hgrow _
                obtain ⟨q', cap', rfl⟩ := own_form hown'
                have RN := (RQ.keep htb (bal (o := .cells #[.bool v] 4) (Below.refl _ _))).next htb hlt (unhide Hv) hgrow hown'
                obtain ⟨⟨d1, d2, S4⟩, R5⟩ := RN
                refine hK.out _ _ S4 (fun _ => ?_)
                clear hK K
                refine wpAnyH_ready (rs := [17]) (by kernel_rfl) (by simp) ?_
                refine AllReadyH.cons (o := _) g19_17 (fun K hK => ?_) AllReadyH.nil
                go_simp
                refine hK.out _ _ S4 (fun _ => ?_)
                clear hK K
                refine wpAnyH_ready (rs := [18]) (by kernel_rfl) (by simp) ?_
                refine AllReadyH.cons (o := _) g19_18 (fun K hK => ?_) AllReadyH.nil
                go_simp
                refine hK.out _ _ R5.2.2.1 (fun _ => ?_)
                refine wpAnyH_done (by kernel_rfl) ?_ _
                refine NoPanic.normal ?_
                have HR5 := hide R5
                clear hK K d1 d2 S4 hown' hgrow RQ R5 hSd
                go_wp2
                go_roundw
                case rel => exact ⟨y + 1, by omega, by go_num, q', cap', unhide HR5⟩
                case measure => simp [intOf]; omega
        · obtain rfl : N = y := by omega
          have cl : ¬ ((N : Int) < (N : Int)) := by omega
          have hN1 : 1 ≤ N := by omega
          obtain ⟨g, c', hq⟩ := own_slice RQ0.2.1 hN1
          obtain ⟨rfl, rfl⟩ : q = some ⟨g, 0, none⟩ ∧ c = c' := by simpa using hq
          have HPn := hide ((unhide HP).more hlt RQ0.2.2.1 RQ0.2.2.2.1 RQ0.2.2.2.2 RQ0.1 (RQ0.2.1.lt g rfl).1 (own_brow RQ0.2.1))
          have Hbn := hide ((unhide Hb).grown RQ0.2.2.1 (unhide Hb).size (fun j e => by cases e; rw [unhide Hbi]; exact Nat.le_refl _))
          have Hnew2 := hide (show ∀ a, a < x + 1 → w0.heap.size ≤ putR rq x g a from fun a ha => by
            unfold putR
            split
            · have := (RQ0.2.1.lt g rfl).1; have := (unhide Hb).size; omega
            · exact unhide Hnew a (by omega))
          clear RQ0 hq
          go_wp2
          go_roundw
          case rel => exact ⟨x + 1, _, by omega, by go_num, unhide HPn, unhide Hnew2, unhide Hbn⟩
          case measure => simp [intOf]; omega
    · obtain rfl : N = x := by omega
      have cl : ¬ ((N : Int) < (N : Int)) := by omega
      have HT0 := hide (show Tbl wr tb N rq (wt (rl f w h) 0) from (unhide HP).all.congr (fun a b ha hb => by
        show t0 f w a b = (a == b || rl f w h a b)
        rw [t0, rl, show decide (a < w + h) = true from decide_eq_true (by rw [← unhide HN]; exact ha), show decide (b < w + h) = true from decide_eq_true (by rw [← unhide HN]; exact hb)]
        simp))
      have Hrow := hide (show ∀ V, Below w0.heap.size w0 V → ∀ a, a < N → ∀ (nv : Bool) (b : Nat), Below w0.heap.size w0 (V.drew.setCell ⟨rq a, b, none⟩ (.bool nv)) from fun V hV a ha nv b => bset (btrans hV (Below.drew (Below.refl _ _))) (unhide Hnew a ha))
      clear HP hlt hx
      go_wp2
      clear cl
      go_loopw [7] (fun i wr => ∃ k : Nat, k ≤ N ∧ i = .int .i64 k ∧ Tbl wr tb N rq (wt (rl f w h) k) ∧ Below w0.heap.size w0 wr) (fun i _ => N - (intOf i).toNat)
      case atStart => exact ⟨0, Nat.zero_le _, rfl, unhide HT0, unhide Hb⟩
      case round =>
        clear HT0 Hb
        obtain ⟨k, hk, rfl, hT, hb⟩ := hrel
        have HTb := hide hT
        have Hb := hide hb
        clear hT hb
        by_cases hlk : k < N
        · have q1 : (k : Int) < (N : Int) := by omega
          have q2 : (0 : Int) ≤ (k : Int) := by omega
          go_wp2
          go_loopw [8] (fun i wr => ∃ a : Nat, a ≤ N ∧ i = .int .i64 a ∧ Tbl wr tb N rq (wk (rl f w h) k a 0) ∧ Below w0.heap.size w0 wr) (fun i _ => N - (intOf i).toNat)
          case atStart => exact ⟨0, Nat.zero_le _, rfl, (unhide HTb).congr (fun a b _ _ => wk_zero.symm), unhide Hb⟩
          case round =>
            clear HTb Hb
            obtain ⟨a, ha, rfl, hT, hb⟩ := hrel
            have HTb := hide hT
            have Hb := hide hb
            clear hT hb
            by_cases hla : a < N
            · have q3 : (a : Int) < (N : Int) := by omega
              have q4 : (0 : Int) ≤ (a : Int) := by omega
              go_wp2
              go_loopw [9] (fun i wr => ∃ b : Nat, b ≤ N ∧ i = .int .i64 b ∧ Tbl wr tb N rq (wk (rl f w h) k a b) ∧ Below w0.heap.size w0 wr) (fun i _ => N - (intOf i).toNat)
              case atStart => exact ⟨0, Nat.zero_le _, rfl, unhide HTb, unhide Hb⟩
              case round =>
                clear HTb Hb
                obtain ⟨b, hbN, rfl, hT, hb⟩ := hrel
                by_cases hlb : b < N
                · have q5 : (b : Int) < (N : Int) := by omega
                  have q6 : (0 : Int) ≤ (b : Int) := by omega
                  obtain ⟨⟨ca, ha1⟩, ha2, hne⟩ := hT.2.1 a hla
                  obtain ⟨⟨ck, hk1⟩, hk2, _⟩ := hT.2.1 k hlk
                  have r1 : wr.drew.cell? ⟨rq a, b, none⟩ = some (.bool (wk (rl f w h) k a b a b)) := (ha2.2 b hlb).1
                  have fz : wr.drew.frozen? ⟨rq a, b, none⟩ = false := (ha2.2 b hlb).2
                  have r2 : wr.drew.cell? ⟨rq a, k, none⟩ = some (.bool (wk (rl f w h) k a b a k)) := (ha2.2 k hlk).1
                  have r3 : wr.drew.cell? ⟨rq k, b, none⟩ = some (.bool (wk (rl f w h) k a b k b)) := (hk2.2 b hlb).1
                  rw [wk_here] at r1
                  rw [wk_col] at r2
                  rw [wk_line] at r3
                  have HTs := hide (show ∀ nv, nv = wt (rl f w h) (k + 1) a b → Tbl (wr.drew.setCell ⟨rq a, b, none⟩ (.bool nv)) tb N rq (wk (rl f w h) k a (b + 1)) from fun nv e => by
                    have := (hT.keep (Below.drew (Below.refl _ _))).set (a := a) (b := b) hla nv
                    rw [e, wk_step] at this
                    rw [e]; exact this)
                  have Hbs := hide (show ∀ nv, Below w0.heap.size w0 (wr.drew.setCell ⟨rq a, b, none⟩ (.bool nv)) from fun nv => unhide Hrow wr hb a hla nv b)
                  have Hnv0 := hide (show wt (rl f w h) (k + 1) a b = (wt (rl f w h) k a b || (wt (rl f w h) k a k && wt (rl f w h) k k b)) from rfl)
                  generalize rq a = ra at *
                  generalize rq k = rk at *
                  generalize wt (rl f w h) k a b = v1 at *
                  generalize wt (rl f w h) k a k = v2 at *
                  generalize wt (rl f w h) k k b = v3 at *
                  generalize wt (rl f w h) (k + 1) a b = v4 at *
                  clear hT hb ha2 hk2
                  cases v1 with
                  | true =>
                    have Hnv := hide (show true = v4 by rw [unhide Hnv0]; rfl)
                    go_wp2_with fail
                    refine wp_region_noPanic ?_
                    refine wp_region_held_drew (S := fun V => V.cell? ⟨tb, a, none⟩ = some (.slice (some ⟨ra, 0, none⟩) N ca) ∧ V.cell? ⟨tb, k, none⟩ = some (.slice (some ⟨rk, 0, none⟩) N ck)) (by kernel_rfl) ⟨ha1, hk1⟩ ?_
                    intro hS0
                    generalize wr.drew = wc at *
                    refine wpAnyH_take (i := 0) (oi := _) (v := .slice (some ⟨tb, 0, none⟩) N N) g32_0 (by kernel_rfl) (by kernel_rfl) (by kernel_rfl) (fun _ _ _ h => h) (Or.inl ⟨by rfl, ?_⟩) (by assumption) ?_
                    · intro V hSw
                      try dsimp only at hSw
                      go_simp
                    simp only [Act.put, List.setIfInBounds_toArray, List.set_cons_zero, List.set_cons_succ]
                    refine wpAnyH_take (i := 1) (oi := _) (v := .int .i64 a) g32_1 (by kernel_rfl) (by kernel_rfl) (by kernel_rfl) (fun _ _ _ h => h) (Or.inl ⟨by rfl, ?_⟩) (by assumption) ?_
                    · intro V hSw
                      try dsimp only at hSw
                      go_simp
                    simp only [Act.put, List.setIfInBounds_toArray, List.set_cons_zero, List.set_cons_succ]
                    refine wpAnyH_take (i := 2) (oi := _) (v := .pointer (some ⟨tb, a, none⟩)) g32_2 (by kernel_rfl) (by kernel_rfl) (by kernel_rfl) (fun _ _ _ h => h) (Or.inl ⟨by rfl, ?_⟩) (by assumption) ?_
                    · intro V hSw
                      try dsimp only at hSw
                      go_simp
                    simp only [Act.put, List.setIfInBounds_toArray, List.set_cons_zero, List.set_cons_succ]
                    refine wpAnyH_take (i := 3) (oi := _) (v := .slice (some ⟨ra, 0, none⟩) N ca) g32_3 (by kernel_rfl) (by kernel_rfl) (by kernel_rfl) (fun _ _ _ h => h) (Or.inl ⟨by rfl, ?_⟩) (by assumption) ?_
                    · intro V hSw
                      try dsimp only at hSw
                      go_simp
                    simp only [Act.put, List.setIfInBounds_toArray, List.set_cons_zero, List.set_cons_succ]
                    refine wpAnyH_take (i := 4) (oi := _) (v := .int .i64 b) g32_4 (by kernel_rfl) (by kernel_rfl) (by kernel_rfl) (fun _ _ _ h => h) (Or.inl ⟨by rfl, ?_⟩) (by assumption) ?_
                    · intro V hSw
                      try dsimp only at hSw
                      go_simp
                    simp only [Act.put, List.setIfInBounds_toArray, List.set_cons_zero, List.set_cons_succ]
                    refine wpAnyH_take (i := 5) (oi := _) (v := .slice (some ⟨tb, 0, none⟩) N N) g32_5 (by kernel_rfl) (by kernel_rfl) (by kernel_rfl) (fun _ _ _ h => h) (Or.inl ⟨by rfl, ?_⟩) (by assumption) ?_
                    · intro V hSw
                      try dsimp only at hSw
                      go_simp
                    simp only [Act.put, List.setIfInBounds_toArray, List.set_cons_zero, List.set_cons_succ]
                    refine wpAnyH_take (i := 6) (oi := _) (v := .int .i64 a) g32_6 (by kernel_rfl) (by kernel_rfl) (by kernel_rfl) (fun _ _ _ h => h) (Or.inl ⟨by rfl, ?_⟩) (by assumption) ?_
                    · intro V hSw
                      try dsimp only at hSw
                      go_simp
                    simp only [Act.put, List.setIfInBounds_toArray, List.set_cons_zero, List.set_cons_succ]
                    refine wpAnyH_take (i := 7) (oi := _) (v := .pointer (some ⟨tb, a, none⟩)) g32_7 (by kernel_rfl) (by kernel_rfl) (by kernel_rfl) (fun _ _ _ h => h) (Or.inl ⟨by rfl, ?_⟩) (by assumption) ?_
                    · intro V hSw
                      try dsimp only at hSw
                      go_simp
                    simp only [Act.put, List.setIfInBounds_toArray, List.set_cons_zero, List.set_cons_succ]
                    refine wpAnyH_take (i := 8) (oi := _) (v := .slice (some ⟨ra, 0, none⟩) N ca) g32_8 (by kernel_rfl) (by kernel_rfl) (by kernel_rfl) (fun _ _ _ h => h) (Or.inl ⟨by rfl, ?_⟩) (by assumption) ?_
                    · intro V hSw
                      try dsimp only at hSw
                      go_simp
                    simp only [Act.put, List.setIfInBounds_toArray, List.set_cons_zero, List.set_cons_succ]
                    refine wpAnyH_take (i := 9) (oi := _) (v := .int .i64 b) g32_9 (by kernel_rfl) (by kernel_rfl) (by kernel_rfl) (fun _ _ _ h => h) (Or.inl ⟨by rfl, ?_⟩) (by assumption) ?_
                    · intro V hSw
                      try dsimp only at hSw
                      go_simp
                    simp only [Act.put, List.setIfInBounds_toArray, List.set_cons_zero, List.set_cons_succ]
                    refine wpAnyH_take (i := 10) (oi := _) (v := .pointer (some ⟨ra, b, none⟩)) g32_10 (by kernel_rfl) (by kernel_rfl) (by kernel_rfl) (fun _ _ _ h => h) (Or.inl ⟨by rfl, ?_⟩) (by assumption) ?_
                    · intro V hSw
                      try dsimp only at hSw
                      go_simp
                    simp only [Act.put, List.setIfInBounds_toArray, List.set_cons_zero, List.set_cons_succ]
                    refine wpAnyH_ready (rs := [11]) (by kernel_rfl) (by simp) ?_
                    refine AllReadyH.cons (o := _) g32_11 (fun K hK => ?_) AllReadyH.nil
                    go_simp
                    refine hK.out _ _ hS0 (fun _ => ?_)
                    clear hK K
                    refine wpAnyH_take (i := 12) (oi := _) (v := .bool true) g32_12 (by kernel_rfl) (by kernel_rfl) (by kernel_rfl) (fun _ _ _ h => h) (Or.inl ⟨by rfl, ?_⟩) (by assumption) ?_
                    · intro V hSw
                      try dsimp only at hSw
                      go_simp
                    simp only [Act.put, List.setIfInBounds_toArray, List.set_cons_zero, List.set_cons_succ]
                    refine wpAnyH_take (i := 13) (oi := _) (v := undef) g32_13 (by kernel_rfl) (by kernel_rfl) (by kernel_rfl) (fun _ _ _ h => h) (Or.inr ⟨by rfl, rfl⟩) (by assumption) ?_
                    simp only [Act.put, List.setIfInBounds_toArray, List.set_cons_zero, List.set_cons_succ]
                    refine wpAnyH_take (i := 14) (oi := _) (v := undef) g32_14 (by kernel_rfl) (by kernel_rfl) (by kernel_rfl) (fun _ _ _ h => h) (Or.inr ⟨by rfl, rfl⟩) (by assumption) ?_
                    simp only [Act.put, List.setIfInBounds_toArray, List.set_cons_zero, List.set_cons_succ]
                    refine wpAnyH_take (i := 15) (oi := _) (v := undef) g32_15 (by kernel_rfl) (by kernel_rfl) (by kernel_rfl) (fun _ _ _ h => h) (Or.inr ⟨by rfl, rfl⟩) (by assumption) ?_
                    simp only [Act.put, List.setIfInBounds_toArray, List.set_cons_zero, List.set_cons_succ]
                    refine wpAnyH_take (i := 16) (oi := _) (v := undef) g32_16 (by kernel_rfl) (by kernel_rfl) (by kernel_rfl) (fun _ _ _ h => h) (Or.inr ⟨by rfl, rfl⟩) (by assumption) ?_
                    simp only [Act.put, List.setIfInBounds_toArray, List.set_cons_zero, List.set_cons_succ]
                    refine wpAnyH_take (i := 17) (oi := _) (v := undef) g32_17 (by kernel_rfl) (by kernel_rfl) (by kernel_rfl) (fun _ _ _ h => h) (Or.inr ⟨by rfl, rfl⟩) (by assumption) ?_
                    simp only [Act.put, List.setIfInBounds_toArray, List.set_cons_zero, List.set_cons_succ]
                    refine wpAnyH_take (i := 18) (oi := _) (v := undef) g32_18 (by kernel_rfl) (by kernel_rfl) (by kernel_rfl) (fun _ _ _ h => h) (Or.inr ⟨by rfl, rfl⟩) (by assumption) ?_
                    simp only [Act.put, List.setIfInBounds_toArray, List.set_cons_zero, List.set_cons_succ]
                    refine wpAnyH_take (i := 19) (oi := _) (v := undef) g32_19 (by kernel_rfl) (by kernel_rfl) (by kernel_rfl) (fun _ _ _ h => h) (Or.inr ⟨by rfl, rfl⟩) (by assumption) ?_
                    simp only [Act.put, List.setIfInBounds_toArray, List.set_cons_zero, List.set_cons_succ]
                    refine wpAnyH_take (i := 20) (oi := _) (v := undef) g32_20 (by kernel_rfl) (by kernel_rfl) (by kernel_rfl) (fun _ _ _ h => h) (Or.inr ⟨by rfl, rfl⟩) (by assumption) ?_
                    simp only [Act.put, List.setIfInBounds_toArray, List.set_cons_zero, List.set_cons_succ]
                    refine wpAnyH_take (i := 21) (oi := _) (v := undef) g32_21 (by kernel_rfl) (by kernel_rfl) (by kernel_rfl) (fun _ _ _ h => h) (Or.inr ⟨by rfl, rfl⟩) (by assumption) ?_
                    simp only [Act.put, List.setIfInBounds_toArray, List.set_cons_zero, List.set_cons_succ]
                    refine wpAnyH_take (i := 22) (oi := _) (v := undef) g32_22 (by kernel_rfl) (by kernel_rfl) (by kernel_rfl) (fun _ _ _ h => h) (Or.inr ⟨by rfl, rfl⟩) (by assumption) ?_
                    simp only [Act.put, List.setIfInBounds_toArray, List.set_cons_zero, List.set_cons_succ]
                    refine wpAnyH_take (i := 23) (oi := _) (v := undef) g32_23 (by kernel_rfl) (by kernel_rfl) (by kernel_rfl) (fun _ _ _ h => h) (Or.inr ⟨by rfl, rfl⟩) (by assumption) ?_
                    simp only [Act.put, List.setIfInBounds_toArray, List.set_cons_zero, List.set_cons_succ]
                    refine wpAnyH_take (i := 24) (oi := _) (v := undef) g32_24 (by kernel_rfl) (by kernel_rfl) (by kernel_rfl) (fun _ _ _ h => h) (Or.inr ⟨by rfl, rfl⟩) (by assumption) ?_
                    simp only [Act.put, List.setIfInBounds_toArray, List.set_cons_zero, List.set_cons_succ]
                    refine wpAnyH_take (i := 25) (oi := _) (v := undef) g32_25 (by kernel_rfl) (by kernel_rfl) (by kernel_rfl) (fun _ _ _ h => h) (Or.inr ⟨by rfl, rfl⟩) (by assumption) ?_
                    simp only [Act.put, List.setIfInBounds_toArray, List.set_cons_zero, List.set_cons_succ]
                    refine wpAnyH_take (i := 26) (oi := _) (v := undef) g32_26 (by kernel_rfl) (by kernel_rfl) (by kernel_rfl) (fun _ _ _ h => h) (Or.inr ⟨by rfl, rfl⟩) (by assumption) ?_
                    simp only [Act.put, List.setIfInBounds_toArray, List.set_cons_zero, List.set_cons_succ]
                    refine wpAnyH_take (i := 27) (oi := _) (v := undef) g32_27 (by kernel_rfl) (by kernel_rfl) (by kernel_rfl) (fun _ _ _ h => h) (Or.inr ⟨by rfl, rfl⟩) (by assumption) ?_
                    simp only [Act.put, List.setIfInBounds_toArray, List.set_cons_zero, List.set_cons_succ]
                    refine wpAnyH_take (i := 28) (oi := _) (v := undef) g32_28 (by kernel_rfl) (by kernel_rfl) (by kernel_rfl) (fun _ _ _ h => h) (Or.inr ⟨by rfl, rfl⟩) (by assumption) ?_
                    simp only [Act.put, List.setIfInBounds_toArray, List.set_cons_zero, List.set_cons_succ]
                    refine wpAnyH_take (i := 29) (oi := _) (v := .bool true) g32_29 (by kernel_rfl) (by kernel_rfl) (by kernel_rfl) (fun _ _ _ h => h) (Or.inl ⟨by rfl, ?_⟩) (by assumption) ?_
                    · intro V hSw
                      try dsimp only at hSw
                      go_simp
                    simp only [Act.put, List.setIfInBounds_toArray, List.set_cons_zero, List.set_cons_succ]
                    refine wpAnyH_ready (rs := [30]) (by kernel_rfl) (by simp) ?_
                    refine AllReadyH.cons (o := _) g32_30 (fun K hK => ?_) AllReadyH.nil
                    go_simp
                    refine hK.out _ _ hS0 (fun _ => ?_)
                    clear hK K
                    refine wpAnyH_ready (rs := [31]) (by kernel_rfl) (by simp) ?_
                    refine AllReadyH.cons (o := _) g32_31 (fun K hK => ?_) AllReadyH.nil
                    go_simp
                    refine hK.out _ _ ⟨by rw [World.cell?_setCell_other _ _ _ _ (by intro e; cases e; exact hne rfl)]; exact hS0.1, by rw [World.cell?_setCell_other _ _ _ _ (by intro e; cases e; exact hne rfl)]; exact hS0.2⟩ (fun _ => ?_)
                    refine wpAnyH_done (by kernel_rfl) ?_ _
                    refine NoPanic.normal ?_
                    have HTn := hide (unhide HTs true (unhide Hnv))
                    have Hbn := hide (unhide Hbs true)
                    clear hK K r1 r2 r3 fz hS0
                    generalize wc.setCell ⟨ra, b, none⟩ (.bool true) = wn at *
                    go_wp2
                    go_roundw
                    case rel => exact ⟨b + 1, by omega, by go_num, unhide HTn, unhide Hbn⟩
                    case measure => simp [intOf]; omega
                  | false =>
                    cases v2 with
                    | false =>
                      have Hnv := hide (show false = v4 by rw [unhide Hnv0]; rfl)
                      go_wp2_with fail
                      refine wp_region_noPanic ?_
                      refine wp_region_held_drew (S := fun V => V.cell? ⟨tb, a, none⟩ = some (.slice (some ⟨ra, 0, none⟩) N ca) ∧ V.cell? ⟨tb, k, none⟩ = some (.slice (some ⟨rk, 0, none⟩) N ck)) (by kernel_rfl) ⟨ha1, hk1⟩ ?_
                      intro hS0
                      generalize wr.drew = wc at *
                      refine wpAnyH_take (i := 0) (oi := _) (v := .slice (some ⟨tb, 0, none⟩) N N) g32_0 (by kernel_rfl) (by kernel_rfl) (by kernel_rfl) (fun _ _ _ h => h) (Or.inl ⟨by rfl, ?_⟩) (by assumption) ?_
                      · intro V hSw
                        try dsimp only at hSw
                        go_simp
                      simp only [Act.put, List.setIfInBounds_toArray, List.set_cons_zero, List.set_cons_succ]
                      refine wpAnyH_take (i := 1) (oi := _) (v := .int .i64 a) g32_1 (by kernel_rfl) (by kernel_rfl) (by kernel_rfl) (fun _ _ _ h => h) (Or.inl ⟨by rfl, ?_⟩) (by assumption) ?_
                      · intro V hSw
                        try dsimp only at hSw
                        go_simp
                      simp only [Act.put, List.setIfInBounds_toArray, List.set_cons_zero, List.set_cons_succ]
                      refine wpAnyH_take (i := 2) (oi := _) (v := .pointer (some ⟨tb, a, none⟩)) g32_2 (by kernel_rfl) (by kernel_rfl) (by kernel_rfl) (fun _ _ _ h => h) (Or.inl ⟨by rfl, ?_⟩) (by assumption) ?_
                      · intro V hSw
                        try dsimp only at hSw
                        go_simp
                      simp only [Act.put, List.setIfInBounds_toArray, List.set_cons_zero, List.set_cons_succ]
                      refine wpAnyH_take (i := 3) (oi := _) (v := .slice (some ⟨ra, 0, none⟩) N ca) g32_3 (by kernel_rfl) (by kernel_rfl) (by kernel_rfl) (fun _ _ _ h => h) (Or.inl ⟨by rfl, ?_⟩) (by assumption) ?_
                      · intro V hSw
                        try dsimp only at hSw
                        go_simp
                      simp only [Act.put, List.setIfInBounds_toArray, List.set_cons_zero, List.set_cons_succ]
                      refine wpAnyH_take (i := 4) (oi := _) (v := .int .i64 b) g32_4 (by kernel_rfl) (by kernel_rfl) (by kernel_rfl) (fun _ _ _ h => h) (Or.inl ⟨by rfl, ?_⟩) (by assumption) ?_
                      · intro V hSw
                        try dsimp only at hSw
                        go_simp
                      simp only [Act.put, List.setIfInBounds_toArray, List.set_cons_zero, List.set_cons_succ]
                      refine wpAnyH_take (i := 5) (oi := _) (v := .slice (some ⟨tb, 0, none⟩) N N) g32_5 (by kernel_rfl) (by kernel_rfl) (by kernel_rfl) (fun _ _ _ h => h) (Or.inl ⟨by rfl, ?_⟩) (by assumption) ?_
                      · intro V hSw
                        try dsimp only at hSw
                        go_simp
                      simp only [Act.put, List.setIfInBounds_toArray, List.set_cons_zero, List.set_cons_succ]
                      refine wpAnyH_take (i := 6) (oi := _) (v := .int .i64 a) g32_6 (by kernel_rfl) (by kernel_rfl) (by kernel_rfl) (fun _ _ _ h => h) (Or.inl ⟨by rfl, ?_⟩) (by assumption) ?_
                      · intro V hSw
                        try dsimp only at hSw
                        go_simp
                      simp only [Act.put, List.setIfInBounds_toArray, List.set_cons_zero, List.set_cons_succ]
                      refine wpAnyH_take (i := 7) (oi := _) (v := .pointer (some ⟨tb, a, none⟩)) g32_7 (by kernel_rfl) (by kernel_rfl) (by kernel_rfl) (fun _ _ _ h => h) (Or.inl ⟨by rfl, ?_⟩) (by assumption) ?_
                      · intro V hSw
                        try dsimp only at hSw
                        go_simp
                      simp only [Act.put, List.setIfInBounds_toArray, List.set_cons_zero, List.set_cons_succ]
                      refine wpAnyH_take (i := 8) (oi := _) (v := .slice (some ⟨ra, 0, none⟩) N ca) g32_8 (by kernel_rfl) (by kernel_rfl) (by kernel_rfl) (fun _ _ _ h => h) (Or.inl ⟨by rfl, ?_⟩) (by assumption) ?_
                      · intro V hSw
                        try dsimp only at hSw
                        go_simp
                      simp only [Act.put, List.setIfInBounds_toArray, List.set_cons_zero, List.set_cons_succ]
                      refine wpAnyH_take (i := 9) (oi := _) (v := .int .i64 b) g32_9 (by kernel_rfl) (by kernel_rfl) (by kernel_rfl) (fun _ _ _ h => h) (Or.inl ⟨by rfl, ?_⟩) (by assumption) ?_
                      · intro V hSw
                        try dsimp only at hSw
                        go_simp
                      simp only [Act.put, List.setIfInBounds_toArray, List.set_cons_zero, List.set_cons_succ]
                      refine wpAnyH_take (i := 10) (oi := _) (v := .pointer (some ⟨ra, b, none⟩)) g32_10 (by kernel_rfl) (by kernel_rfl) (by kernel_rfl) (fun _ _ _ h => h) (Or.inl ⟨by rfl, ?_⟩) (by assumption) ?_
                      · intro V hSw
                        try dsimp only at hSw
                        go_simp
                      simp only [Act.put, List.setIfInBounds_toArray, List.set_cons_zero, List.set_cons_succ]
                      refine wpAnyH_ready (rs := [11]) (by kernel_rfl) (by simp) ?_
                      refine AllReadyH.cons (o := _) g32_11 (fun K hK => ?_) AllReadyH.nil
                      go_simp
                      refine hK.out _ _ hS0 (fun _ => ?_)
                      clear hK K
                      refine wpAnyH_take (i := 12) (oi := _) (v := .bool false) g32_12 (by kernel_rfl) (by kernel_rfl) (by kernel_rfl) (fun _ _ _ h => h) (Or.inl ⟨by rfl, ?_⟩) (by assumption) ?_
                      · intro V hSw
                        try dsimp only at hSw
                        go_simp
                      simp only [Act.put, List.setIfInBounds_toArray, List.set_cons_zero, List.set_cons_succ]
                      refine wpAnyH_take (i := 13) (oi := _) (v := .slice (some ⟨tb, 0, none⟩) N N) g32_13 (by kernel_rfl) (by kernel_rfl) (by kernel_rfl) (fun _ _ _ h => h) (Or.inl ⟨by rfl, ?_⟩) (by assumption) ?_
                      · intro V hSw
                        try dsimp only at hSw
                        go_simp
                      simp only [Act.put, List.setIfInBounds_toArray, List.set_cons_zero, List.set_cons_succ]
                      refine wpAnyH_take (i := 14) (oi := _) (v := .int .i64 a) g32_14 (by kernel_rfl) (by kernel_rfl) (by kernel_rfl) (fun _ _ _ h => h) (Or.inl ⟨by rfl, ?_⟩) (by assumption) ?_
                      · intro V hSw
                        try dsimp only at hSw
                        go_simp
                      simp only [Act.put, List.setIfInBounds_toArray, List.set_cons_zero, List.set_cons_succ]
                      refine wpAnyH_take (i := 15) (oi := _) (v := .pointer (some ⟨tb, a, none⟩)) g32_15 (by kernel_rfl) (by kernel_rfl) (by kernel_rfl) (fun _ _ _ h => h) (Or.inl ⟨by rfl, ?_⟩) (by assumption) ?_
                      · intro V hSw
                        try dsimp only at hSw
                        go_simp
                      simp only [Act.put, List.setIfInBounds_toArray, List.set_cons_zero, List.set_cons_succ]
                      refine wpAnyH_take (i := 16) (oi := _) (v := .slice (some ⟨ra, 0, none⟩) N ca) g32_16 (by kernel_rfl) (by kernel_rfl) (by kernel_rfl) (fun _ _ _ h => h) (Or.inl ⟨by rfl, ?_⟩) (by assumption) ?_
                      · intro V hSw
                        try dsimp only at hSw
                        go_simp
                      simp only [Act.put, List.setIfInBounds_toArray, List.set_cons_zero, List.set_cons_succ]
                      refine wpAnyH_take (i := 17) (oi := _) (v := .int .i64 k) g32_17 (by kernel_rfl) (by kernel_rfl) (by kernel_rfl) (fun _ _ _ h => h) (Or.inl ⟨by rfl, ?_⟩) (by assumption) ?_
                      · intro V hSw
                        try dsimp only at hSw
                        go_simp
                      simp only [Act.put, List.setIfInBounds_toArray, List.set_cons_zero, List.set_cons_succ]
                      refine wpAnyH_take (i := 18) (oi := _) (v := .pointer (some ⟨ra, k, none⟩)) g32_18 (by kernel_rfl) (by kernel_rfl) (by kernel_rfl) (fun _ _ _ h => h) (Or.inl ⟨by rfl, ?_⟩) (by assumption) ?_
                      · intro V hSw
                        try dsimp only at hSw
                        go_simp
                      simp only [Act.put, List.setIfInBounds_toArray, List.set_cons_zero, List.set_cons_succ]
                      refine wpAnyH_ready (rs := [19]) (by kernel_rfl) (by simp) ?_
                      refine AllReadyH.cons (o := _) g32_19 (fun K hK => ?_) AllReadyH.nil
                      go_simp
                      refine hK.out _ _ hS0 (fun _ => ?_)
                      clear hK K
                      refine wpAnyH_take (i := 20) (oi := _) (v := .bool false) g32_20 (by kernel_rfl) (by kernel_rfl) (by kernel_rfl) (fun _ _ _ h => h) (Or.inl ⟨by rfl, ?_⟩) (by assumption) ?_
                      · intro V hSw
                        try dsimp only at hSw
                        go_simp
                      simp only [Act.put, List.setIfInBounds_toArray, List.set_cons_zero, List.set_cons_succ]
                      refine wpAnyH_take (i := 21) (oi := _) (v := undef) g32_21 (by kernel_rfl) (by kernel_rfl) (by kernel_rfl) (fun _ _ _ h => h) (Or.inr ⟨by rfl, rfl⟩) (by assumption) ?_
                      simp only [Act.put, List.setIfInBounds_toArray, List.set_cons_zero, List.set_cons_succ]
                      refine wpAnyH_take (i := 22) (oi := _) (v := undef) g32_22 (by kernel_rfl) (by kernel_rfl) (by kernel_rfl) (fun _ _ _ h => h) (Or.inr ⟨by rfl, rfl⟩) (by assumption) ?_
                      simp only [Act.put, List.setIfInBounds_toArray, List.set_cons_zero, List.set_cons_succ]
                      refine wpAnyH_take (i := 23) (oi := _) (v := undef) g32_23 (by kernel_rfl) (by kernel_rfl) (by kernel_rfl) (fun _ _ _ h => h) (Or.inr ⟨by rfl, rfl⟩) (by assumption) ?_
                      simp only [Act.put, List.setIfInBounds_toArray, List.set_cons_zero, List.set_cons_succ]
                      refine wpAnyH_take (i := 24) (oi := _) (v := undef) g32_24 (by kernel_rfl) (by kernel_rfl) (by kernel_rfl) (fun _ _ _ h => h) (Or.inr ⟨by rfl, rfl⟩) (by assumption) ?_
                      simp only [Act.put, List.setIfInBounds_toArray, List.set_cons_zero, List.set_cons_succ]
                      refine wpAnyH_take (i := 25) (oi := _) (v := undef) g32_25 (by kernel_rfl) (by kernel_rfl) (by kernel_rfl) (fun _ _ _ h => h) (Or.inr ⟨by rfl, rfl⟩) (by assumption) ?_
                      simp only [Act.put, List.setIfInBounds_toArray, List.set_cons_zero, List.set_cons_succ]
                      refine wpAnyH_take (i := 26) (oi := _) (v := undef) g32_26 (by kernel_rfl) (by kernel_rfl) (by kernel_rfl) (fun _ _ _ h => h) (Or.inr ⟨by rfl, rfl⟩) (by assumption) ?_
                      simp only [Act.put, List.setIfInBounds_toArray, List.set_cons_zero, List.set_cons_succ]
                      refine wpAnyH_take (i := 27) (oi := _) (v := undef) g32_27 (by kernel_rfl) (by kernel_rfl) (by kernel_rfl) (fun _ _ _ h => h) (Or.inr ⟨by rfl, rfl⟩) (by assumption) ?_
                      simp only [Act.put, List.setIfInBounds_toArray, List.set_cons_zero, List.set_cons_succ]
                      refine wpAnyH_take (i := 28) (oi := _) (v := .bool false) g32_28 (by kernel_rfl) (by kernel_rfl) (by kernel_rfl) (fun _ _ _ h => h) (Or.inl ⟨by rfl, ?_⟩) (by assumption) ?_
                      · intro V hSw
                        try dsimp only at hSw
                        go_simp
                      simp only [Act.put, List.setIfInBounds_toArray, List.set_cons_zero, List.set_cons_succ]
                      refine wpAnyH_take (i := 29) (oi := _) (v := .bool false) g32_29 (by kernel_rfl) (by kernel_rfl) (by kernel_rfl) (fun _ _ _ h => h) (Or.inl ⟨by rfl, ?_⟩) (by assumption) ?_
                      · intro V hSw
                        try dsimp only at hSw
                        go_simp
                      simp only [Act.put, List.setIfInBounds_toArray, List.set_cons_zero, List.set_cons_succ]
                      refine wpAnyH_ready (rs := [30]) (by kernel_rfl) (by simp) ?_
                      refine AllReadyH.cons (o := _) g32_30 (fun K hK => ?_) AllReadyH.nil
                      go_simp
                      refine hK.out _ _ hS0 (fun _ => ?_)
                      clear hK K
                      refine wpAnyH_ready (rs := [31]) (by kernel_rfl) (by simp) ?_
                      refine AllReadyH.cons (o := _) g32_31 (fun K hK => ?_) AllReadyH.nil
                      go_simp
                      refine hK.out _ _ ⟨by rw [World.cell?_setCell_other _ _ _ _ (by intro e; cases e; exact hne rfl)]; exact hS0.1, by rw [World.cell?_setCell_other _ _ _ _ (by intro e; cases e; exact hne rfl)]; exact hS0.2⟩ (fun _ => ?_)
                      refine wpAnyH_done (by kernel_rfl) ?_ _
                      refine NoPanic.normal ?_
                      have HTn := hide (unhide HTs false (unhide Hnv))
                      have Hbn := hide (unhide Hbs false)
                      clear hK K r1 r2 r3 fz hS0
                      generalize wc.setCell ⟨ra, b, none⟩ (.bool false) = wn at *
                      go_wp2
                      go_roundw
                      case rel => exact ⟨b + 1, by omega, by go_num, unhide HTn, unhide Hbn⟩
                      case measure => simp [intOf]; omega
                    | true =>
                      have Hnv := hide (show v3 = v4 by rw [unhide Hnv0]; simp)
                      go_wp2_with fail
                      refine wp_region_noPanic ?_
                      refine wp_region_held_drew (S := fun V => V.cell? ⟨tb, a, none⟩ = some (.slice (some ⟨ra, 0, none⟩) N ca) ∧ V.cell? ⟨tb, k, none⟩ = some (.slice (some ⟨rk, 0, none⟩) N ck)) (by kernel_rfl) ⟨ha1, hk1⟩ ?_
                      intro hS0
                      generalize wr.drew = wc at *
                      refine wpAnyH_take (i := 0) (oi := _) (v := .slice (some ⟨tb, 0, none⟩) N N) g32_0 (by kernel_rfl) (by kernel_rfl) (by kernel_rfl) (fun _ _ _ h => h) (Or.inl ⟨by rfl, ?_⟩) (by assumption) ?_
                      · intro V hSw
                        try dsimp only at hSw
                        go_simp
                      simp only [Act.put, List.setIfInBounds_toArray, List.set_cons_zero, List.set_cons_succ]
                      refine wpAnyH_take (i := 1) (oi := _) (v := .int .i64 a) g32_1 (by kernel_rfl) (by kernel_rfl) (by kernel_rfl) (fun _ _ _ h => h) (Or.inl ⟨by rfl, ?_⟩) (by assumption) ?_
                      · intro V hSw
                        try dsimp only at hSw
                        go_simp
                      simp only [Act.put, List.setIfInBounds_toArray, List.set_cons_zero, List.set_cons_succ]
                      refine wpAnyH_take (i := 2) (oi := _) (v := .pointer (some ⟨tb, a, none⟩)) g32_2 (by kernel_rfl) (by kernel_rfl) (by kernel_rfl) (fun _ _ _ h => h) (Or.inl ⟨by rfl, ?_⟩) (by assumption) ?_
                      · intro V hSw
                        try dsimp only at hSw
                        go_simp
                      simp only [Act.put, List.setIfInBounds_toArray, List.set_cons_zero, List.set_cons_succ]
                      refine wpAnyH_take (i := 3) (oi := _) (v := .slice (some ⟨ra, 0, none⟩) N ca) g32_3 (by kernel_rfl) (by kernel_rfl) (by kernel_rfl) (fun _ _ _ h => h) (Or.inl ⟨by rfl, ?_⟩) (by assumption) ?_
                      · intro V hSw
                        try dsimp only at hSw
                        go_simp
                      simp only [Act.put, List.setIfInBounds_toArray, List.set_cons_zero, List.set_cons_succ]
                      refine wpAnyH_take (i := 4) (oi := _) (v := .int .i64 b) g32_4 (by kernel_rfl) (by kernel_rfl) (by kernel_rfl) (fun _ _ _ h => h) (Or.inl ⟨by rfl, ?_⟩) (by assumption) ?_
                      · intro V hSw
                        try dsimp only at hSw
                        go_simp
                      simp only [Act.put, List.setIfInBounds_toArray, List.set_cons_zero, List.set_cons_succ]
                      refine wpAnyH_take (i := 5) (oi := _) (v := .slice (some ⟨tb, 0, none⟩) N N) g32_5 (by kernel_rfl) (by kernel_rfl) (by kernel_rfl) (fun _ _ _ h => h) (Or.inl ⟨by rfl, ?_⟩) (by assumption) ?_
                      · intro V hSw
                        try dsimp only at hSw
                        go_simp
                      simp only [Act.put, List.setIfInBounds_toArray, List.set_cons_zero, List.set_cons_succ]
                      refine wpAnyH_take (i := 6) (oi := _) (v := .int .i64 a) g32_6 (by kernel_rfl) (by kernel_rfl) (by kernel_rfl) (fun _ _ _ h => h) (Or.inl ⟨by rfl, ?_⟩) (by assumption) ?_
                      · intro V hSw
                        try dsimp only at hSw
                        go_simp
                      simp only [Act.put, List.setIfInBounds_toArray, List.set_cons_zero, List.set_cons_succ]
                      refine wpAnyH_take (i := 7) (oi := _) (v := .pointer (some ⟨tb, a, none⟩)) g32_7 (by kernel_rfl) (by kernel_rfl) (by kernel_rfl) (fun _ _ _ h => h) (Or.inl ⟨by rfl, ?_⟩) (by assumption) ?_
                      · intro V hSw
                        try dsimp only at hSw
                        go_simp
                      simp only [Act.put, List.setIfInBounds_toArray, List.set_cons_zero, List.set_cons_succ]
                      refine wpAnyH_take (i := 8) (oi := _) (v := .slice (some ⟨ra, 0, none⟩) N ca) g32_8 (by kernel_rfl) (by kernel_rfl) (by kernel_rfl) (fun _ _ _ h => h) (Or.inl ⟨by rfl, ?_⟩) (by assumption) ?_
                      · intro V hSw
                        try dsimp only at hSw
                        go_simp
                      simp only [Act.put, List.setIfInBounds_toArray, List.set_cons_zero, List.set_cons_succ]
                      refine wpAnyH_take (i := 9) (oi := _) (v := .int .i64 b) g32_9 (by kernel_rfl) (by kernel_rfl) (by kernel_rfl) (fun _ _ _ h => h) (Or.inl ⟨by rfl, ?_⟩) (by assumption) ?_
                      · intro V hSw
                        try dsimp only at hSw
                        go_simp
                      simp only [Act.put, List.setIfInBounds_toArray, List.set_cons_zero, List.set_cons_succ]
                      refine wpAnyH_take (i := 10) (oi := _) (v := .pointer (some ⟨ra, b, none⟩)) g32_10 (by kernel_rfl) (by kernel_rfl) (by kernel_rfl) (fun _ _ _ h => h) (Or.inl ⟨by rfl, ?_⟩) (by assumption) ?_
                      · intro V hSw
                        try dsimp only at hSw
                        go_simp
                      simp only [Act.put, List.setIfInBounds_toArray, List.set_cons_zero, List.set_cons_succ]
                      refine wpAnyH_ready (rs := [11]) (by kernel_rfl) (by simp) ?_
                      refine AllReadyH.cons (o := _) g32_11 (fun K hK => ?_) AllReadyH.nil
                      go_simp
                      refine hK.out _ _ hS0 (fun _ => ?_)
                      clear hK K
                      refine wpAnyH_take (i := 12) (oi := _) (v := .bool false) g32_12 (by kernel_rfl) (by kernel_rfl) (by kernel_rfl) (fun _ _ _ h => h) (Or.inl ⟨by rfl, ?_⟩) (by assumption) ?_
                      · intro V hSw
                        try dsimp only at hSw
                        go_simp
                      simp only [Act.put, List.setIfInBounds_toArray, List.set_cons_zero, List.set_cons_succ]
                      refine wpAnyH_take (i := 13) (oi := _) (v := .slice (some ⟨tb, 0, none⟩) N N) g32_13 (by kernel_rfl) (by kernel_rfl) (by kernel_rfl) (fun _ _ _ h => h) (Or.inl ⟨by rfl, ?_⟩) (by assumption) ?_
                      · intro V hSw
                        try dsimp only at hSw
                        go_simp
                      simp only [Act.put, List.setIfInBounds_toArray, List.set_cons_zero, List.set_cons_succ]
                      refine wpAnyH_take (i := 14) (oi := _) (v := .int .i64 a) g32_14 (by kernel_rfl) (by kernel_rfl) (by kernel_rfl) (fun _ _ _ h => h) (Or.inl ⟨by rfl, ?_⟩) (by assumption) ?_
                      · intro V hSw
                        try dsimp only at hSw
                        go_simp
                      simp only [Act.put, List.setIfInBounds_toArray, List.set_cons_zero, List.set_cons_succ]
                      refine wpAnyH_take (i := 15) (oi := _) (v := .pointer (some ⟨tb, a, none⟩)) g32_15 (by kernel_rfl) (by kernel_rfl) (by kernel_rfl) (fun _ _ _ h => h) (Or.inl ⟨by rfl, ?_⟩) (by assumption) ?_
                      · intro V hSw
                        try dsimp only at hSw
                        go_simp
                      simp only [Act.put, List.setIfInBounds_toArray, List.set_cons_zero, List.set_cons_succ]
                      refine wpAnyH_take (i := 16) (oi := _) (v := .slice (some ⟨ra, 0, none⟩) N ca) g32_16 (by kernel_rfl) (by kernel_rfl) (by kernel_rfl) (fun _ _ _ h => h) (Or.inl ⟨by rfl, ?_⟩) (by assumption) ?_
                      · intro V hSw
                        try dsimp only at hSw
                        go_simp
                      simp only [Act.put, List.setIfInBounds_toArray, List.set_cons_zero, List.set_cons_succ]
                      refine wpAnyH_take (i := 17) (oi := _) (v := .int .i64 k) g32_17 (by kernel_rfl) (by kernel_rfl) (by kernel_rfl) (fun _ _ _ h => h) (Or.inl ⟨by rfl, ?_⟩) (by assumption) ?_
                      · intro V hSw
                        try dsimp only at hSw
                        go_simp
                      simp only [Act.put, List.setIfInBounds_toArray, List.set_cons_zero, List.set_cons_succ]
                      refine wpAnyH_take (i := 18) (oi := _) (v := .pointer (some ⟨ra, k, none⟩)) g32_18 (by kernel_rfl) (by kernel_rfl) (by kernel_rfl) (fun _ _ _ h => h) (Or.inl ⟨by rfl, ?_⟩) (by assumption) ?_
                      · intro V hSw
                        try dsimp only at hSw
                        go_simp
                      simp only [Act.put, List.setIfInBounds_toArray, List.set_cons_zero, List.set_cons_succ]
                      refine wpAnyH_ready (rs := [19]) (by kernel_rfl) (by simp) ?_
                      refine AllReadyH.cons (o := _) g32_19 (fun K hK => ?_) AllReadyH.nil
                      go_simp
                      refine hK.out _ _ hS0 (fun _ => ?_)
                      clear hK K
                      refine wpAnyH_take (i := 20) (oi := _) (v := .bool true) g32_20 (by kernel_rfl) (by kernel_rfl) (by kernel_rfl) (fun _ _ _ h => h) (Or.inl ⟨by rfl, ?_⟩) (by assumption) ?_
                      · intro V hSw
                        try dsimp only at hSw
                        go_simp
                      simp only [Act.put, List.setIfInBounds_toArray, List.set_cons_zero, List.set_cons_succ]
                      refine wpAnyH_take (i := 21) (oi := _) (v := .slice (some ⟨tb, 0, none⟩) N N) g32_21 (by kernel_rfl) (by kernel_rfl) (by kernel_rfl) (fun _ _ _ h => h) (Or.inl ⟨by rfl, ?_⟩) (by assumption) ?_
                      · intro V hSw
                        try dsimp only at hSw
                        go_simp
                      simp only [Act.put, List.setIfInBounds_toArray, List.set_cons_zero, List.set_cons_succ]
                      refine wpAnyH_take (i := 22) (oi := _) (v := .int .i64 k) g32_22 (by kernel_rfl) (by kernel_rfl) (by kernel_rfl) (fun _ _ _ h => h) (Or.inl ⟨by rfl, ?_⟩) (by assumption) ?_
                      · intro V hSw
                        try dsimp only at hSw
                        go_simp
                      simp only [Act.put, List.setIfInBounds_toArray, List.set_cons_zero, List.set_cons_succ]
                      refine wpAnyH_take (i := 23) (oi := _) (v := .pointer (some ⟨tb, k, none⟩)) g32_23 (by kernel_rfl) (by kernel_rfl) (by kernel_rfl) (fun _ _ _ h => h) (Or.inl ⟨by rfl, ?_⟩) (by assumption) ?_
                      · intro V hSw
                        try dsimp only at hSw
                        go_simp
                      simp only [Act.put, List.setIfInBounds_toArray, List.set_cons_zero, List.set_cons_succ]
                      refine wpAnyH_take (i := 24) (oi := _) (v := .slice (some ⟨rk, 0, none⟩) N ck) g32_24 (by kernel_rfl) (by kernel_rfl) (by kernel_rfl) (fun _ _ _ h => h) (Or.inl ⟨by rfl, ?_⟩) (by assumption) ?_
                      · intro V hSw
                        try dsimp only at hSw
                        go_simp
                      simp only [Act.put, List.setIfInBounds_toArray, List.set_cons_zero, List.set_cons_succ]
                      refine wpAnyH_take (i := 25) (oi := _) (v := .int .i64 b) g32_25 (by kernel_rfl) (by kernel_rfl) (by kernel_rfl) (fun _ _ _ h => h) (Or.inl ⟨by rfl, ?_⟩) (by assumption) ?_
                      · intro V hSw
                        try dsimp only at hSw
                        go_simp
                      simp only [Act.put, List.setIfInBounds_toArray, List.set_cons_zero, List.set_cons_succ]
                      refine wpAnyH_take (i := 26) (oi := _) (v := .pointer (some ⟨rk, b, none⟩)) g32_26 (by kernel_rfl) (by kernel_rfl) (by kernel_rfl) (fun _ _ _ h => h) (Or.inl ⟨by rfl, ?_⟩) (by assumption) ?_
                      · intro V hSw
                        try dsimp only at hSw
                        go_simp
                      simp only [Act.put, List.setIfInBounds_toArray, List.set_cons_zero, List.set_cons_succ]
                      refine wpAnyH_ready (rs := [27]) (by kernel_rfl) (by simp) ?_
                      refine AllReadyH.cons (o := _) g32_27 (fun K hK => ?_) AllReadyH.nil
                      go_simp
                      refine hK.out _ _ hS0 (fun _ => ?_)
                      clear hK K
                      refine wpAnyH_take (i := 28) (oi := _) (v := .bool v3) g32_28 (by kernel_rfl) (by kernel_rfl) (by kernel_rfl) (fun _ _ _ h => h) (Or.inl ⟨by rfl, ?_⟩) (by assumption) ?_
                      · intro V hSw
                        try dsimp only at hSw
                        go_simp
                      simp only [Act.put, List.setIfInBounds_toArray, List.set_cons_zero, List.set_cons_succ]
                      refine wpAnyH_take (i := 29) (oi := _) (v := .bool v3) g32_29 (by kernel_rfl) (by kernel_rfl) (by kernel_rfl) (fun _ _ _ h => h) (Or.inl ⟨by rfl, ?_⟩) (by assumption) ?_
                      · intro V hSw
                        try dsimp only at hSw
                        go_simp
                      simp only [Act.put, List.setIfInBounds_toArray, List.set_cons_zero, List.set_cons_succ]
                      refine wpAnyH_ready (rs := [30]) (by kernel_rfl) (by simp) ?_
                      refine AllReadyH.cons (o := _) g32_30 (fun K hK => ?_) AllReadyH.nil
                      go_simp
                      refine hK.out _ _ hS0 (fun _ => ?_)
                      clear hK K
                      refine wpAnyH_ready (rs := [31]) (by kernel_rfl) (by simp) ?_
                      refine AllReadyH.cons (o := _) g32_31 (fun K hK => ?_) AllReadyH.nil
                      go_simp
                      refine hK.out _ _ ⟨by rw [World.cell?_setCell_other _ _ _ _ (by intro e; cases e; exact hne rfl)]; exact hS0.1, by rw [World.cell?_setCell_other _ _ _ _ (by intro e; cases e; exact hne rfl)]; exact hS0.2⟩ (fun _ => ?_)
                      refine wpAnyH_done (by kernel_rfl) ?_ _
                      refine NoPanic.normal ?_
                      have HTn := hide (unhide HTs v3 (unhide Hnv))
                      have Hbn := hide (unhide Hbs v3)
                      clear hK K r1 r2 r3 fz hS0
                      generalize wc.setCell ⟨ra, b, none⟩ (.bool v3) = wn at *
                      go_wp2
                      go_roundw
                      case rel => exact ⟨b + 1, by omega, by go_num, unhide HTn, unhide Hbn⟩
                      case measure => simp [intOf]; omega
                · obtain rfl : N = b := by omega
                  have cl : ¬ ((N : Int) < (N : Int)) := by omega
                  have HT2 := hide (hT.congr (T' := wk (rl f w h) k (a + 1) 0) (fun a' b' _ hb' => wk_row hb'))
                  have Hb2 := hide hb
                  clear hT hb
                  go_wp2
                  go_roundw
                  case rel => exact ⟨a + 1, by omega, by go_num, unhide HT2, unhide Hb2⟩
                  case measure => simp [intOf]; omega
            · obtain rfl : N = a := by omega
              have cl : ¬ ((N : Int) < (N : Int)) := by omega
              have HT2 := hide ((unhide HTb).congr (T' := wt (rl f w h) (k + 1)) (fun a' b' ha' _ => wk_end ha'))
              go_wp2
              go_roundw
              case rel => exact ⟨k + 1, by omega, by go_num, unhide HT2, unhide Hb⟩
              case measure => simp [intOf]; omega
        · obtain rfl : N = k := by omega
          have cl : ¬ ((N : Int) < (N : Int)) := by omega
          have HTo := hide (show Tbl wr tb N rq (ov f w h) from by have := unhide HTb; rw [show ov f w h = wt (rl f w h) N by rw [unhide HN]; rfl]; exact this)
          go_wp2
          go_ret
          exact ⟨tb, N, rfl, unhide HN, ⟨rq, unhide HTo⟩, by have := unhide Htb; omega, btrans (unhide B0) (unhide Hb)⟩
end Go.Proofs.Ytbbilogkblmniaa
