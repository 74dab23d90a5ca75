package shipped

// arm is the description of AArch64, as desc.Print prints it: the registers that a value may be in. x16 and x17 are the
// linker's own, x18 is the platform's, x29 the frame's, and x30 has where a call came from.
const arm = `machine arm {
  reg x0 64 {
    reg w0 32 at 0
  }
  reg x1 64 {
    reg w1 32 at 0
  }
  reg x2 64 {
    reg w2 32 at 0
  }
  reg x3 64 {
    reg w3 32 at 0
  }
  reg x4 64 {
    reg w4 32 at 0
  }
  reg x5 64 {
    reg w5 32 at 0
  }
  reg x6 64 {
    reg w6 32 at 0
  }
  reg x7 64 {
    reg w7 32 at 0
  }
  reg x8 64 {
    reg w8 32 at 0
  }
  reg x9 64 {
    reg w9 32 at 0
  }
  reg x10 64 {
    reg w10 32 at 0
  }
  reg x11 64 {
    reg w11 32 at 0
  }
  reg x12 64 {
    reg w12 32 at 0
  }
  reg x13 64 {
    reg w13 32 at 0
  }
  reg x14 64 {
    reg w14 32 at 0
  }
  reg x15 64 {
    reg w15 32 at 0
  }
  reg x19 64 {
    reg w19 32 at 0
  }
  reg x20 64 {
    reg w20 32 at 0
  }
  reg x21 64 {
    reg w21 32 at 0
  }
  reg x22 64 {
    reg w22 32 at 0
  }
  reg x23 64 {
    reg w23 32 at 0
  }
  reg x24 64 {
    reg w24 32 at 0
  }
  reg x25 64 {
    reg w25 32 at 0
  }
  reg x26 64 {
    reg w26 32 at 0
  }
  reg x27 64 {
    reg w27 32 at 0
  }
  reg x28 64 {
    reg w28 32 at 0
  }
  class g = x0 x1 x2 x3 x4 x5 x6 x7 x8 x9 x10 x11 x12 x13 x14 x15 x19 x20 x21 x22 x23 x24 x25 x26 x27 x28
  class w = w0 w1 w2 w3 w4 w5 w6 w7 w8 w9 w10 w11 w12 w13 w14 w15 w19 w20 w21 w22 w23 w24 w25 w26 w27 w28
  op add g = g g
  op sub g = g g
  op mul g = g g
  op and g = g g
  op or g = g g
  op xor g = g g
  op shl g = g g
  op shr g = g g
  op div g = g g
  op rem g = g g
  op lt g = g g
  op eq g = g g
  op not g = g
  args x0 x1 x2 x3 x4 x5 x6 x7
  result x0
  saved x19 x20 x21 x22 x23 x24 x25 x26 x27 x28
  slots 1000
}
`
