/-
  Which number a name in a column of the table is. No program here.
-/
namespace Ucd

def categoryF (l : List UInt8) : Nat :=
  if (l == [108, 111, 119, 101, 114]) = true then 1
  else if (l == [117, 112, 112, 101, 114]) = true then 2
  else if (l == [108, 101, 116, 116, 101, 114]) = true then 3
  else if (l == [109, 97, 114, 107]) = true then 4
  else if (l == [100, 105, 103, 105, 116]) = true then 5
  else if (l == [112, 117, 110, 99, 116]) = true then 6
  else if (l == [115, 121, 109, 98, 111, 108]) = true then 7
  else if (l == [115, 112, 97, 99, 101]) = true then 8
  else if (l == [99, 111, 110, 116, 114, 111, 108]) = true then 9
  else if (l == [102, 111, 114, 109, 97, 116]) = true then 10
  else 0

def explicitF (l : List UInt8) : Nat :=
  if (l == [76, 82, 69]) = true then 14
  else if (l == [82, 76, 69]) = true then 15
  else if (l == [80, 68, 70]) = true then 16
  else if (l == [76, 82, 79]) = true then 17
  else if (l == [82, 76, 79]) = true then 18
  else if (l == [76, 82, 73]) = true then 19
  else if (l == [82, 76, 73]) = true then 20
  else if (l == [70, 83, 73]) = true then 21
  else if (l == [80, 68, 73]) = true then 22
  else 0

def bidiF (l : List UInt8) : Nat :=
  if (l == [82]) = true then 1
  else if (l == [65, 76]) = true then 2
  else if (l == [69, 78]) = true then 3
  else if (l == [69, 83]) = true then 4
  else if (l == [69, 84]) = true then 5
  else if (l == [65, 78]) = true then 6
  else if (l == [67, 83]) = true then 7
  else if (l == [78, 83, 77]) = true then 8
  else if (l == [66, 78]) = true then 9
  else if (l == [66]) = true then 10
  else if (l == [83]) = true then 11
  else if (l == [87, 83]) = true then 12
  else if (l == [79, 78]) = true then 13
  else explicitF l

def joinF (l : List UInt8) : Nat :=
  if (l == [99, 97, 117, 115, 101]) = true then 1
  else if (l == [99, 108, 101, 97, 114]) = true then 2
  else if (l == [100, 117, 97, 108]) = true then 3
  else if (l == [114, 105, 103, 104, 116]) = true then 5
  else 0

def scriptF (l : List UInt8) : Nat :=
  if (l == [73, 110, 104, 101, 114, 105, 116, 101, 100]) = true then 1
  else if (l == [76, 97, 116, 105, 110]) = true then 2
  else if (l == [71, 114, 101, 101, 107]) = true then 3
  else if (l == [67, 121, 114, 105, 108, 108, 105, 99]) = true then 4
  else if (l == [72, 101, 98, 114, 101, 119]) = true then 5
  else if (l == [65, 114, 97, 98, 105, 99]) = true then 6
  else if (l == [68, 101, 118, 97, 110, 97, 103, 97, 114, 105]) = true then 7
  else if (l == [72, 97, 110]) = true then 8
  else if (l == [72, 105, 114, 97, 103, 97, 110, 97]) = true then 9
  else if (l == [75, 97, 116, 97, 107, 97, 110, 97]) = true then 10
  else if (l == [72, 97, 110, 103, 117, 108]) = true then 11
  else 0

def digitsF (l : List UInt8) : Nat :=
  if (l == [97, 115, 99, 105, 105]) = true then 1
  else if (l == [97, 114, 97, 98, 105, 99]) = true then 2
  else if (l == [101, 97, 115, 116]) = true then 3
  else if (l == [100, 101, 118, 97]) = true then 4
  else if (l == [119, 105, 100, 101]) = true then 5
  else 0

end Ucd
